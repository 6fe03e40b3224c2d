import Derived.Test.YtfpmfjmjnmjcdaaMgAV
import Derived.Test.YtfpmfjmjnmjcdaaMgAU
namespace Go.Proofs.Ytfpmfjmjnmjcdaa
open Go.RowKit
set_option linter.unusedVariables false
set_option linter.unusedSimpArgs false
def bkK (E : List Int) (l : Int) : Nat → List Int
  | 0 => []
  | i + 1 => if E.getD (i * 3 + 1) 0 ≤ l then bkK E l i ++ [E.getD (i * 3 + 0) 0, E.getD (i * 3 + 1) 0, E.getD (i * 3 + 2) 0] else bkK E l i
def bkN (E : List Int) (l : Int) : Nat → Nat
  | 0 => 0
  | i + 1 => if E.getD (i * 3 + 1) 0 ≤ l then bkN E l i + 1 else bkN E l i
def bkO (E : List Int) (l : Int) : Nat → List Int
  | 0 => []
  | i + 1 => if E.getD (i * 3 + 1) 0 ≤ l then bkO E l i else E.getD (i * 3 + 0) 0 :: bkO E l i
theorem bk_len (E : List Int) (l : Int) : ∀ i, (bkK E l i).length = bkN E l i * 3 ∧ (bkO E l i).length + bkN E l i = i
  | 0 => ⟨rfl, rfl⟩
  | i + 1 => by
    have ih := bk_len E l i
    unfold bkK bkN bkO
    by_cases h : E.getD (i * 3 + 1) 0 ≤ l
    · rw [if_pos h, if_pos h, if_pos h]; simp; omega
    · rw [if_neg h, if_neg h, if_neg h]; simp; omega
def bkD (d l : Int) : Int := if l < d then l else d
theorem Wf810a {A B : Prop} (h9 : B) (w : B → A := by (intro h9; (repeat intro K hK); refine ⟨?_⟩; (repeat (first | (first | (with_reducible first | refine AX_block ?_ | refine AX_skip ?_ | refine AX_exit ?_ | refine AX_ret ?_ | refine AX_ift ?_ | refine AX_iff ?_ | refine AX_seq_k (fun K hK => ?_) | refine ContX.use (by assumption) ?_) | simp only [thenX, inBlockX, if_true, if_false, reduceCtorEq]) | (first | ((first | (with_reducible refine XRes_op tyOK ?_ ?_) | ((with_reducible first | refine ADF_op tyOK ?_ ?_ ?_ | refine ADX_op tyOK ?_ ?_ ?_); (focus rfl)) | (with_reducible refine ADR_alloc1 tyOK ?_ ?_) | ((with_reducible refine ADR_free1 tyOK ?_ ?_ ?_); (focus rfl)) | ((with_reducible refine ADR_free0 tyOK ?_ ?_ ?_); (focus rfl)) | ((with_reducible refine ADR_read1 tyOK ?_ ?_ ?_); (focus rfl)) | (with_reducible refine ADR_chg1 tyOK ?_ ?_)); (focus (first | (with_reducible rfl) | ((simp (disch := omega) only [go_sem]); done))); simp (disch := omega) only [go_sem , iFlat, hs1, hs2, hs3, hs4, hs5, hs6, hs7, hs8, Int.toNat_zero, Int.toNat_one, List.length_nil]; (first | (with_reducible refine XRes_id ?_) | (with_reducible refine ADF_id ?_) | (with_reducible refine ADR_id1 ?_) | (with_reducible refine ADX_id ?_))) | ((first | (with_reducible refine XRes_skip ?_ ?_) | (with_reducible refine ADF_skip (b := true) ?_ ?_) | (with_reducible refine ADX_skip ?_ ?_) | ((with_reducible refine ADR_skip1 ?_ ?_ ?_); (focus rfl))); (focus (first | rfl | ((simp (disch := omega) only [go_sem]); done))); (simp only [putL, List.set_cons_succ, List.set_cons_zero]))) | ((first | (with_reducible refine XRes_nil ?_) | (with_reducible refine ADF_nil ?_) | (with_reducible refine ADR_nil ?_) | (with_reducible refine ADX_nil ?_)); (first | refine hK _ ?_ | refine hK _ _ ?_); clear hK K) | ((first | (with_reducible refine AX_reg0 fun K hK => ?_) | (refine AX_drawG1 tyOK (by kernel_rfl) (by rfl) (by kernel_rfl) fun K hK => ?_) | (refine AX_drawT tyOK (by kernel_rfl) (by decide +kernel) fun K hK => ?_) | (refine AX_drawM1 (by kernel_rfl) (by rfl) (by decide +kernel) fun K hK => ?_) | (refine AX_drawA tyOK (by kernel_rfl) (by decide +kernel) fun K hK => ?_)); (first | simp only [go_sem, preN, effOp, runF, alM, mapOp, alD2, kdOf2, Bool.not_false, Bool.not_true, reduceCtorEq] | simp only [go_sem, preN, effOp, runF, alM, mapOp, Bool.not_false, Bool.not_true, reduceCtorEq] | simp only [go_sem, preN, effOp, runF, alD2, kdOf2, Bool.not_false, Bool.not_true, reduceCtorEq] | simp only [go_sem, alD2, kdOf2, Bool.not_false, Bool.not_true, reduceCtorEq] | simp only [go_sem, preN, effOp, runF, Bool.not_false, Bool.not_true, reduceCtorEq] | simp only [go_sem])) | (first | (first | refine XTL (by rfl) hC ?_ | refine ATL tyOK (by rfl) hC ?_ | refine XTL (by rfl) hD ?_ | refine ATL tyOK (by rfl) hD ?_)))); refine Wk.o ?_; (repeat revert hK K); exact h9)) : A := w h9
set_option maxRecDepth 100000 in
set_option maxHeartbeats 4000000 in
theorem pf_r13Back0 (n : Int) (E : List Int) (m : Nat) (dd l : Int) (hm : m ≤ 1000000) (hl : 0 ≤ l) : PF Try.prog 26 [rT n E m dd, lt (.int .i64 l)] fun r H' => r = .tup [rT n (bkK E l m) (bkN E l m) (bkD dd l), .iv (iInts (bkO E l m))] ∧ H' = [] := by
  refine SF.frozen ?_
  have hs1 := trivial; have hs2 := trivial; have hs3 := trivial; have hs4 := trivial; have hs5 := trivial; have hs6 := trivial; have hs7 := trivial; have hs8 := trivial
  have hC := trivial; have hD := trivial
  (refine SF_of_bodyX (aload tt) (aload_ok tyOK) Try.func26 rfl (by kernel_rfl) ?_; simp only [Try.ntmps26, List.length_cons, List.length_nil, Nat.reduceAdd, Nat.reduceSub, List.replicate_succ, List.replicate_zero, List.cons_append, List.nil_append])
  unfold rT iFlat
  (refine Wk.o ?_; (repeat revert hK K); refine Wf810a ?_; (repeat intro K hK); refine ⟨?_⟩)
  refine AX_nil 6 49 3 rfl ?_
  refine AX_nil 7 3 1 rfl ?_
  simp only [List.set_cons_succ, List.set_cons_zero, List.length_cons, List.length_nil, List.cons_append, List.nil_append, Nat.zero_add, Nat.reduceAdd]
  (refine AWH (σ := Nat) [11, 12, 13, 14, 15, 18, 19, 20, 21, 22, 23, 24, 25, 26, 27, 28, 29, 30, 31, 32, 33, 34, 35, 36, 37, 38, 39, 40, 41, 42, 16, 17] (fun i => [(8, lint i), (6, .osl 2 0 (bkN E l i) 3), (7, .osl 3 0 (bkO E l i).length 1)]) (fun i => [some ⟨30, [lt (.int .i64 n), .iv (iFlat E m 3), lt (.int .i64 dd)]⟩, some ⟨30, [lt (.int .i64 0), lt (.slice none 0 0), lt (.int .i64 0)]⟩, some ⟨49, (bkK E l i).map lint⟩, some ⟨3, (bkO E l i).map lint⟩]) (fun i => []) (fun i => i ≤ m) (fun i => m - i) 0 (by first | exact Nat.zero_le _) ?_; rintro i d fr hfr hi; simp only [updS, deadS, List.set_cons_succ, List.set_cons_zero, lint] at hfr; subst hfr; (try dsimp only))
  have hkl := bk_len E l i
  unfold iFlat
  by_cases hlt : i < m
  · by_cases hle : E.getD (i * 3 + 1) 0 ≤ l
    · have e1 : bkK E l (i + 1) = bkK E l i ++ [E.getD (i * 3 + 0) 0, E.getD (i * 3 + 1) 0, E.getD (i * 3 + 2) 0] := by show (if _ then _ else _) = _; rw [if_pos hle]
      have e2 : bkN E l (i + 1) = bkN E l i + 1 := by show (if _ then _ else _) = _; rw [if_pos hle]
      have e3 : bkO E l (i + 1) = bkO E l i := by show (if _ then _ else _) = _; rw [if_pos hle]
      generalize bkK E l i = A1 at *
      generalize bkN E l i = A2 at *
      generalize bkO E l i = A3 at *
      have hs1 := hkl.1
      (refine Wk.o ?_; (repeat revert hK K); refine Wf810a ?_; (repeat intro K hK); refine ⟨?_⟩)
      exact whx_ren [0, 1, 5, 3] (i + 1) (by omega) (by (first | omega | (dsimp only; omega) | (simp only; omega))) rfl (by decide) (by decide) (by (simp (disch := omega) only [go_sem, lint])) (by (simp (disch := omega) only [go_sem, lint])) (by rw [e1, e3]; first | ((simp (disch := omega) only [go_sem, lint]); done) | ((simp (disch := omega) only [go_sem, lint]); rfl)) (fun d => by rw [e2, e3]; (simp (disch := omega) only [go_sem, lint]))
    · have e1 : bkK E l (i + 1) = bkK E l i := by show (if _ then _ else _) = _; rw [if_neg hle]
      have e2 : bkN E l (i + 1) = bkN E l i := by show (if _ then _ else _) = _; rw [if_neg hle]
      have e3 : bkO E l (i + 1) = E.getD (i * 3 + 0) 0 :: bkO E l i := by show (if _ then _ else _) = _; rw [if_neg hle]
      generalize bkK E l i = A1 at *
      generalize bkN E l i = A2 at *
      generalize bkO E l i = A3 at *
      have hs2 : 1 + A3.length = A3.length + 1 := Nat.add_comm _ _
      (refine Wk.o ?_; (repeat revert hK K); refine Wf810a ?_; (repeat intro K hK); refine ⟨?_⟩)
      exact whx_ren [0, 1, 2, 5] (i + 1) (by omega) (by (first | omega | (dsimp only; omega) | (simp only; omega))) rfl (by decide) (by decide) (by (simp (disch := omega) only [go_sem, lint])) (by (simp (disch := omega) only [go_sem, lint])) (by rw [e1, e3]; first | ((simp (disch := omega) only [go_sem, lint]); done) | ((simp (disch := omega) only [go_sem, lint]); rfl)) (fun d => by rw [e2, e3]; (simp (disch := omega) only [go_sem, lint]))
  · obtain rfl : i = m := by omega
    generalize bkK E l i = A1 at *
    generalize bkN E l i = A2 at *
    generalize bkO E l i = A3 at *
    by_cases hd : l < dd
    · have hbd : bkD dd l = l := if_pos hd
      (refine Wk.o ?_; (repeat revert hK K); refine Wf810a ?_; (repeat intro K hK); refine ⟨?_⟩)
      (simp only [bodyX]; refine ⟨_, by simp only [aresults, aresult, XS.as, Try.results26, aload, go_sem, Option.bind_some]; rfl, ?_⟩)
      exact ⟨_, Snap.twoP (snap_rT (snap_flat rfl (by decide) hkl.1)) (snap_ints rfl rfl), by rw [hbd]; rfl, trivial⟩
    · have hbd : bkD dd l = dd := if_neg hd
      (refine Wk.o ?_; (repeat revert hK K); refine Wf810a ?_; (repeat intro K hK); refine ⟨?_⟩)
      (simp only [bodyX]; refine ⟨_, by simp only [aresults, aresult, XS.as, Try.results26, aload, go_sem, Option.bind_some]; rfl, ?_⟩)
      exact ⟨_, Snap.twoP (snap_rT (snap_flat rfl (by decide) hkl.1)) (snap_ints rfl rfl), by rw [hbd]; rfl, trivial⟩
set_option maxRecDepth 100000 in
set_option maxHeartbeats 4000000 in
theorem pf_r13BackN (n : Int) (E : List Int) (m : Nat) (dd l : Int) (hm : m ≤ 1000000) (hl : l < 0) : PF Try.prog 26 [rT n E m dd, lt (.int .i64 l)] fun r H' => r = .tup [rT n (bkK E 0 m) (bkN E 0 m) (bkD dd 0), .iv (iInts (bkO E 0 m))] ∧ H' = [] := by
  refine SF.frozen ?_
  have hs1 := trivial; have hs2 := trivial; have hs3 := trivial; have hs4 := trivial; have hs5 := trivial; have hs6 := trivial; have hs7 := trivial; have hs8 := trivial
  have hC := trivial; have hD := trivial
  (refine SF_of_bodyX (aload tt) (aload_ok tyOK) Try.func26 rfl (by kernel_rfl) ?_; simp only [Try.ntmps26, List.length_cons, List.length_nil, Nat.reduceAdd, Nat.reduceSub, List.replicate_succ, List.replicate_zero, List.cons_append, List.nil_append])
  unfold rT iFlat
  (refine Wk.o ?_; (repeat revert hK K); refine Wf810a ?_; (repeat intro K hK); refine ⟨?_⟩)
  refine AX_nil 6 49 3 rfl ?_
  refine AX_nil 7 3 1 rfl ?_
  simp only [List.set_cons_succ, List.set_cons_zero, List.length_cons, List.length_nil, List.cons_append, List.nil_append, Nat.zero_add, Nat.reduceAdd]
  (refine AWH (σ := Nat) [11, 12, 13, 14, 15, 18, 19, 20, 21, 22, 23, 24, 25, 26, 27, 28, 29, 30, 31, 32, 33, 34, 35, 36, 37, 38, 39, 40, 41, 42, 16, 17] (fun i => [(8, lint i), (6, .osl 2 0 (bkN E 0 i) 3), (7, .osl 3 0 (bkO E 0 i).length 1)]) (fun i => [some ⟨30, [lt (.int .i64 n), .iv (iFlat E m 3), lt (.int .i64 dd)]⟩, some ⟨30, [lt (.int .i64 0), lt (.slice none 0 0), lt (.int .i64 0)]⟩, some ⟨49, (bkK E 0 i).map lint⟩, some ⟨3, (bkO E 0 i).map lint⟩]) (fun i => []) (fun i => i ≤ m) (fun i => m - i) 0 (by first | exact Nat.zero_le _) ?_; rintro i d fr hfr hi; simp only [updS, deadS, List.set_cons_succ, List.set_cons_zero, lint] at hfr; subst hfr; (try dsimp only))
  have hkl := bk_len E 0 i
  unfold iFlat
  by_cases hlt : i < m
  · by_cases hle : E.getD (i * 3 + 1) 0 ≤ 0
    · have e1 : bkK E 0 (i + 1) = bkK E 0 i ++ [E.getD (i * 3 + 0) 0, E.getD (i * 3 + 1) 0, E.getD (i * 3 + 2) 0] := by show (if _ then _ else _) = _; rw [if_pos hle]
      have e2 : bkN E 0 (i + 1) = bkN E 0 i + 1 := by show (if _ then _ else _) = _; rw [if_pos hle]
      have e3 : bkO E 0 (i + 1) = bkO E 0 i := by show (if _ then _ else _) = _; rw [if_pos hle]
      generalize bkK E 0 i = A1 at *
      generalize bkN E 0 i = A2 at *
      generalize bkO E 0 i = A3 at *
      have hs1 := hkl.1
      (refine Wk.o ?_; (repeat revert hK K); refine Wf810a ?_; (repeat intro K hK); refine ⟨?_⟩)
      exact whx_ren [0, 1, 5, 3] (i + 1) (by omega) (by (first | omega | (dsimp only; omega) | (simp only; omega))) rfl (by decide) (by decide) (by (simp (disch := omega) only [go_sem, lint])) (by (simp (disch := omega) only [go_sem, lint])) (by rw [e1, e3]; first | ((simp (disch := omega) only [go_sem, lint]); done) | ((simp (disch := omega) only [go_sem, lint]); rfl)) (fun d => by rw [e2, e3]; (simp (disch := omega) only [go_sem, lint]))
    · have e1 : bkK E 0 (i + 1) = bkK E 0 i := by show (if _ then _ else _) = _; rw [if_neg hle]
      have e2 : bkN E 0 (i + 1) = bkN E 0 i := by show (if _ then _ else _) = _; rw [if_neg hle]
      have e3 : bkO E 0 (i + 1) = E.getD (i * 3 + 0) 0 :: bkO E 0 i := by show (if _ then _ else _) = _; rw [if_neg hle]
      generalize bkK E 0 i = A1 at *
      generalize bkN E 0 i = A2 at *
      generalize bkO E 0 i = A3 at *
      have hs2 : 1 + A3.length = A3.length + 1 := Nat.add_comm _ _
      (refine Wk.o ?_; (repeat revert hK K); refine Wf810a ?_; (repeat intro K hK); refine ⟨?_⟩)
      exact whx_ren [0, 1, 2, 5] (i + 1) (by omega) (by (first | omega | (dsimp only; omega) | (simp only; omega))) rfl (by decide) (by decide) (by (simp (disch := omega) only [go_sem, lint])) (by (simp (disch := omega) only [go_sem, lint])) (by rw [e1, e3]; first | ((simp (disch := omega) only [go_sem, lint]); done) | ((simp (disch := omega) only [go_sem, lint]); rfl)) (fun d => by rw [e2, e3]; (simp (disch := omega) only [go_sem, lint]))
  · obtain rfl : i = m := by omega
    generalize bkK E 0 i = A1 at *
    generalize bkN E 0 i = A2 at *
    generalize bkO E 0 i = A3 at *
    by_cases hd : 0 < dd
    · have hbd : bkD dd 0 = 0 := if_pos hd
      (refine Wk.o ?_; (repeat revert hK K); refine Wf810a ?_; (repeat intro K hK); refine ⟨?_⟩)
      (simp only [bodyX]; refine ⟨_, by simp only [aresults, aresult, XS.as, Try.results26, aload, go_sem, Option.bind_some]; rfl, ?_⟩)
      exact ⟨_, Snap.twoP (snap_rT (snap_flat rfl (by decide) hkl.1)) (snap_ints rfl rfl), by rw [hbd]; rfl, trivial⟩
    · have hbd : bkD dd 0 = dd := if_neg hd
      (refine Wk.o ?_; (repeat revert hK K); refine Wf810a ?_; (repeat intro K hK); refine ⟨?_⟩)
      (simp only [bodyX]; refine ⟨_, by simp only [aresults, aresult, XS.as, Try.results26, aload, go_sem, Option.bind_some]; rfl, ?_⟩)
      exact ⟨_, Snap.twoP (snap_rT (snap_flat rfl (by decide) hkl.1)) (snap_ints rfl rfl), by rw [hbd]; rfl, trivial⟩
end Go.Proofs.Ytfpmfjmjnmjcdaa
namespace Go.Proofs.Ytfpmfjmjnmjcdaa
open Go.RowKit
set_option linter.unusedVariables false
set_option linter.unusedSimpArgs false
theorem Wbc18a {A B : Prop} (h9 : B) (w : B → A := by (intro h9; (repeat intro K hK); refine ⟨?_⟩; (repeat (first | (first | (with_reducible first | refine AX_block ?_ | refine AX_skip ?_ | refine AX_exit ?_ | refine AX_ret ?_ | refine AX_ift ?_ | refine AX_iff ?_ | refine AX_seq_k (fun K hK => ?_) | refine ContX.use (by assumption) ?_) | simp only [thenX, inBlockX, if_true, if_false, reduceCtorEq]) | (first | ((first | (with_reducible refine XRes_op tyOK ?_ ?_) | ((with_reducible first | refine ADF_op tyOK ?_ ?_ ?_ | refine ADX_op tyOK ?_ ?_ ?_); (focus rfl)) | (with_reducible refine ADR_alloc1 tyOK ?_ ?_) | ((with_reducible refine ADR_free1 tyOK ?_ ?_ ?_); (focus rfl)) | ((with_reducible refine ADR_free0 tyOK ?_ ?_ ?_); (focus rfl)) | ((with_reducible refine ADR_read1 tyOK ?_ ?_ ?_); (focus rfl)) | (with_reducible refine ADR_chg1 tyOK ?_ ?_)); (focus (first | (with_reducible rfl) | ((simp (disch := omega) only [go_sem]); done))); simp (disch := omega) only [go_sem , hs1, hs2, hs3, hs4, hs5, hs6, hs7, hs8, hs9, List.length_set, Int.toNat_zero, Int.toNat_one, List.length_nil]; (first | (with_reducible refine XRes_id ?_) | (with_reducible refine ADF_id ?_) | (with_reducible refine ADR_id1 ?_) | (with_reducible refine ADX_id ?_))) | ((first | (with_reducible refine XRes_skip ?_ ?_) | (with_reducible refine ADF_skip (b := true) ?_ ?_) | (with_reducible refine ADX_skip ?_ ?_) | ((with_reducible refine ADR_skip1 ?_ ?_ ?_); (focus rfl))); (focus (first | rfl | ((simp (disch := omega) only [go_sem]); done))); (simp only [putL, List.set_cons_succ, List.set_cons_zero]))) | ((first | (with_reducible refine XRes_nil ?_) | (with_reducible refine ADF_nil ?_) | (with_reducible refine ADR_nil ?_) | (with_reducible refine ADX_nil ?_)); (first | refine hK _ ?_ | refine hK _ _ ?_); clear hK K) | ((first | (with_reducible refine AX_reg0 fun K hK => ?_) | (refine AX_drawG1 tyOK (by kernel_rfl) (by rfl) (by kernel_rfl) fun K hK => ?_) | (refine AX_drawT tyOK (by kernel_rfl) (by decide +kernel) fun K hK => ?_) | (refine AX_drawM1 (by kernel_rfl) (by rfl) (by decide +kernel) fun K hK => ?_) | (refine AX_drawA tyOK (by kernel_rfl) (by decide +kernel) fun K hK => ?_)); (first | simp only [go_sem, preN, effOp, runF, alM, mapOp, alD2, kdOf2, Bool.not_false, Bool.not_true, reduceCtorEq] | simp only [go_sem, preN, effOp, runF, alM, mapOp, Bool.not_false, Bool.not_true, reduceCtorEq] | simp only [go_sem, preN, effOp, runF, alD2, kdOf2, Bool.not_false, Bool.not_true, reduceCtorEq] | simp only [go_sem, alD2, kdOf2, Bool.not_false, Bool.not_true, reduceCtorEq] | simp only [go_sem, preN, effOp, runF, Bool.not_false, Bool.not_true, reduceCtorEq] | simp only [go_sem])) | (first | (first | refine XTL (by rfl) hV ?_ | refine ATL tyOK (by rfl) hV ?_ | refine XTL (by rfl) hI ?_ | refine ATL tyOK (by rfl) hI ?_) | ((refine ADR_tellR (by rfl) hV ?_ (fun _ => rfl) ?_); (focus exact idsA (by rfl)); (simp only [putL, List.set_cons_succ, List.set_cons_zero])) | ((refine XRes_fn (by rfl) hC ?_); (rintro r H' ⟨rfl, rfl⟩); (simp only [putL, List.set_cons_succ, List.set_cons_zero]))) | (simp only [preN, effOp, runF, freeOp, roOp, alD, kdOf, isApp, List.any_cons, List.any_nil, List.take_succ_cons, List.take_zero, List.drop_succ_cons, List.drop_zero, Nat.reduceAdd, Bool.not_true, Bool.not_false, Bool.and_true, Bool.true_and, Bool.false_and, Bool.and_false, Bool.or_true, Bool.true_or, Bool.or_false, Bool.false_or, if_true, if_false, Bool.false_eq_true, reduceCtorEq, dsts, lapp_cons, lapp_nil, List.map_cons, List.map_nil, strip_mk, strip_gd, gix_some, List.getElem?_cons_succ, List.getElem?_cons_zero]) | (with_reducible refine XRes_nil ?_))); refine Wk.o ?_; (repeat revert hK K); exact h9)) : A := w h9
set_option maxRecDepth 100000 in
set_option maxHeartbeats 2000000 in
theorem pf_put1 {n : Nat} {L St Of Vl lv rs : List Int} (hT : TrS n L St Of Vl lv rs) (hLl : L.length ≤ 100000) (hSl : St.length ≤ 1000000) (x r d : Int) (h1 : lvar x ≠ 0) (h2 : lvar x ≤ n) : SF Try.prog 41 [.optr 2 0, lt (.int .i64 x), lt (.int .i64 r)] [some ⟨73, Of.map lint⟩, some ⟨70, Vl.map l8⟩, some ⟨57, [.osl 3 0 L.length 1, .osl 4 0 St.length 1, .osl 0 0 (n + 1) 3, .osl 1 0 Vl.length 1, lt (.bool true)]⟩, some ⟨3, L.map lint⟩, some ⟨3, St.map lint⟩] fun y H' => y = .tup [] ∧ H' = [some ⟨73, (of3 Of (lvar x).toNat St.length r L.length).map lint⟩, some ⟨70, ((Vl.set (vix x) 1).set (vix (-x)) (-1)).map l8⟩, some ⟨57, [.osl 6 0 (L.length + 1) 1, .osl 4 0 St.length 1, .osl 0 0 (n + 1) 3, .osl 1 0 Vl.length 1, lt (.bool true)]⟩, none, some ⟨3, St.map lint⟩, some ⟨3, [lint x]⟩, some ⟨3, (L ++ [x]).map lint⟩] := by
  have hs1 := trivial; have hs2 := trivial; have hs3 := trivial; have hs4 := trivial; have hs5 := trivial; have hs6 := trivial; have hs7 := trivial; have hs8 := trivial; have hs9 := trivial
  have hC := trivial; have hS := trivial; have hV := trivial; have hI := trivial
  have hI := pf_LIndex x
  have hV := pf_LVar x
  have hb := lvar_bd x
  have hvl := hT.vl
  have hofl := hT.ofl
  have hn := hT.n1
  obtain ⟨e1, e2⟩ := lix h1 h2
  have e3 := (lix (x := -x) (n := n) (by rw [lvar_neg]; exact h1) (by rw [lvar_neg]; exact h2)).2
  have hs1 := xor_one (vix x) (by omega)
  rw [vix_neg h1] at hs1
  have hs4 : aint .xor .i64 (vix x : Int) 1 = some (.int .i64 (vix (-x) : Int)) := by show some _ = _; rw [hs1]
  have hs2 := of3_splice Of (lvar x).toNat (St.length : Int) r (L.length : Int) (by omega)
  have hs2 : (Of.map lint).take ((lvar x).toNat * 3) ++ [lt (.int .i64 (St.length : Int)), lt (.int .i64 r), lt (.int .i64 (L.length : Int))] ++ (Of.map lint).drop ((lvar x).toNat * 3 + 3) = (of3 Of (lvar x).toNat (St.length : Int) r (L.length : Int)).map lint := hs2
  have hs3 : ((lvar x).toNat : Int) = lvar x := by omega
  have hl3 := of3_len Of (lvar x).toNat (St.length : Int) r (L.length : Int)
  rw [e1] at hI
  generalize vix x = i at *
  generalize vix (-x) = j at *
  generalize hv : lvar x = v at *
  generalize hO : of3 Of v.toNat (St.length : Int) r (L.length : Int) = O2 at *
  (refine SF_of_bodyX (aload tt) (aload_ok tyOK) Try.func41 rfl (by kernel_rfl) ?_; simp only [Try.ntmps41, List.length_cons, List.length_nil, Nat.reduceAdd, Nat.reduceSub, List.replicate_succ, List.replicate_zero, List.cons_append, List.nil_append])
  (refine Wk.o ?_; (repeat revert hK K); refine Wbc18a ?_; (repeat intro K hK); refine ⟨?_⟩)
  erw [hs1]
  (refine Wk.o ?_; (repeat revert hK K); refine Wbc18a ?_; (repeat intro K hK); refine ⟨?_⟩)
  (simp only [bodyX]; refine ⟨_, by simp only [aresults, aresult, XS.as, Try.results41, aload, go_sem, Option.bind_some]; rfl, ?_⟩)
  exact ⟨rfl, rfl⟩
set_option maxRecDepth 100000 in
set_option maxHeartbeats 2000000 in
theorem pf_put2 {n : Nat} {L St Of Vl lv rs : List Int} (hT : TrS n L St Of Vl lv rs) (hLl : L.length ≤ 100000) (hSl : St.length ≤ 1000000) (x r d : Int) (h1 : lvar x ≠ 0) (h2 : lvar x ≤ n) : SF Try.prog 41 [.optr 2 0, lt (.int .i64 x), lt (.int .i64 r)] [some ⟨73, Of.map lint⟩, some ⟨70, Vl.map l8⟩, some ⟨57, [.osl 3 0 L.length 1, .osl 6 0 St.length 1, .osl 0 0 (n + 1) 3, .osl 1 0 Vl.length 1, lt (.bool true)]⟩, some ⟨3, L.map lint⟩, none, some ⟨3, [lint d]⟩, some ⟨3, St.map lint⟩] fun y H' => y = .tup [] ∧ H' = [some ⟨73, (of3 Of (lvar x).toNat St.length r L.length).map lint⟩, some ⟨70, ((Vl.set (vix x) 1).set (vix (-x)) (-1)).map l8⟩, some ⟨57, [.osl 8 0 (L.length + 1) 1, .osl 6 0 St.length 1, .osl 0 0 (n + 1) 3, .osl 1 0 Vl.length 1, lt (.bool true)]⟩, none, none, some ⟨3, [lint d]⟩, some ⟨3, St.map lint⟩, some ⟨3, [lint x]⟩, some ⟨3, (L ++ [x]).map lint⟩] := by
  have hs1 := trivial; have hs2 := trivial; have hs3 := trivial; have hs4 := trivial; have hs5 := trivial; have hs6 := trivial; have hs7 := trivial; have hs8 := trivial; have hs9 := trivial
  have hC := trivial; have hS := trivial; have hV := trivial; have hI := trivial
  have hI := pf_LIndex x
  have hV := pf_LVar x
  have hb := lvar_bd x
  have hvl := hT.vl
  have hofl := hT.ofl
  have hn := hT.n1
  obtain ⟨e1, e2⟩ := lix h1 h2
  have e3 := (lix (x := -x) (n := n) (by rw [lvar_neg]; exact h1) (by rw [lvar_neg]; exact h2)).2
  have hs1 := xor_one (vix x) (by omega)
  rw [vix_neg h1] at hs1
  have hs4 : aint .xor .i64 (vix x : Int) 1 = some (.int .i64 (vix (-x) : Int)) := by show some _ = _; rw [hs1]
  have hs2 := of3_splice Of (lvar x).toNat (St.length : Int) r (L.length : Int) (by omega)
  have hs2 : (Of.map lint).take ((lvar x).toNat * 3) ++ [lt (.int .i64 (St.length : Int)), lt (.int .i64 r), lt (.int .i64 (L.length : Int))] ++ (Of.map lint).drop ((lvar x).toNat * 3 + 3) = (of3 Of (lvar x).toNat (St.length : Int) r (L.length : Int)).map lint := hs2
  have hs3 : ((lvar x).toNat : Int) = lvar x := by omega
  have hl3 := of3_len Of (lvar x).toNat (St.length : Int) r (L.length : Int)
  rw [e1] at hI
  generalize vix x = i at *
  generalize vix (-x) = j at *
  generalize hv : lvar x = v at *
  generalize hO : of3 Of v.toNat (St.length : Int) r (L.length : Int) = O2 at *
  (refine SF_of_bodyX (aload tt) (aload_ok tyOK) Try.func41 rfl (by kernel_rfl) ?_; simp only [Try.ntmps41, List.length_cons, List.length_nil, Nat.reduceAdd, Nat.reduceSub, List.replicate_succ, List.replicate_zero, List.cons_append, List.nil_append])
  (refine Wk.o ?_; (repeat revert hK K); refine Wbc18a ?_; (repeat intro K hK); refine ⟨?_⟩)
  erw [hs1]
  (refine Wk.o ?_; (repeat revert hK K); refine Wbc18a ?_; (repeat intro K hK); refine ⟨?_⟩)
  (simp only [bodyX]; refine ⟨_, by simp only [aresults, aresult, XS.as, Try.results41, aload, go_sem, Option.bind_some]; rfl, ?_⟩)
  exact ⟨rfl, rfl⟩
end Go.Proofs.Ytfpmfjmjnmjcdaa
namespace Go.Proofs.Ytfpmfjmjnmjcdaa
open Go.RowKit
set_option linter.unusedVariables false
set_option linter.unusedSimpArgs false
theorem trAtT (n : Nat) (L St Of Vl : List Int) : TrAt n [some ⟨73, Of.map lint⟩, some ⟨70, Vl.map l8⟩, some ⟨57, [.osl 3 0 L.length 1, .osl 4 0 St.length 1, .osl 0 0 (n + 1) 3, .osl 1 0 Vl.length 1, lt (.bool true)]⟩, some ⟨3, L.map lint⟩, some ⟨3, St.map lint⟩] 3 4 L St Of Vl := ⟨rfl, rfl, rfl, rfl, rfl⟩
theorem mayE_ok {n : Nat} {L : List Int} {x : Int} (h : mayE n L x = 0) : lvar x ≠ 0 ∧ lvar x ≤ n ∧ tv L x = 0 := by
  unfold mayE at h
  by_cases h1 : lvar x ≠ 0 ∧ lvar x ≤ n
  · rw [if_pos h1] at h
    by_cases h2 : tv L x = 0
    · exact ⟨h1.1, h1.2, h2⟩
    · rw [if_neg h2] at h; omega
  · rw [if_neg h1] at h; omega
def impE (n : Nat) (L : List Int) (x r : Int) : Int := if mayE n L x = 0 then (if r < 0 then 2 else 0) else mayE n L x
theorem Wc96aa {A B : Prop} (h9 : B) (w : B → A := by (intro h9; (repeat intro K hK); refine ⟨?_⟩; (repeat (first | (first | (with_reducible first | refine AX_block ?_ | refine AX_skip ?_ | refine AX_exit ?_ | refine AX_ret ?_ | refine AX_ift ?_ | refine AX_iff ?_ | refine AX_seq_k (fun K hK => ?_) | refine ContX.use (by assumption) ?_) | simp only [thenX, inBlockX, if_true, if_false, reduceCtorEq]) | (first | ((first | (with_reducible refine XRes_op tyOK ?_ ?_) | ((with_reducible first | refine ADF_op tyOK ?_ ?_ ?_ | refine ADX_op tyOK ?_ ?_ ?_); (focus rfl)) | (with_reducible refine ADR_alloc1 tyOK ?_ ?_) | ((with_reducible refine ADR_free1 tyOK ?_ ?_ ?_); (focus rfl)) | ((with_reducible refine ADR_free0 tyOK ?_ ?_ ?_); (focus rfl)) | ((with_reducible refine ADR_read1 tyOK ?_ ?_ ?_); (focus rfl)) | (with_reducible refine ADR_chg1 tyOK ?_ ?_)); (focus (first | (with_reducible rfl) | ((simp (disch := omega) only [go_sem]); done))); simp (disch := omega) only [go_sem , hs1, hs2, hs3, hs4, hs5, hs6, hs7, hs8, hs9, Nat.reduceLeDiff, List.length_set, Int.toNat_zero, Int.toNat_one, List.length_nil]; (first | (with_reducible refine XRes_id ?_) | (with_reducible refine ADF_id ?_) | (with_reducible refine ADR_id1 ?_) | (with_reducible refine ADX_id ?_))) | ((first | (with_reducible refine XRes_skip ?_ ?_) | (with_reducible refine ADF_skip (b := true) ?_ ?_) | (with_reducible refine ADX_skip ?_ ?_) | ((with_reducible refine ADR_skip1 ?_ ?_ ?_); (focus rfl))); (focus (first | rfl | ((simp (disch := omega) only [go_sem]); done))); (simp only [putL, List.set_cons_succ, List.set_cons_zero]))) | ((first | (with_reducible refine XRes_nil ?_) | (with_reducible refine ADF_nil ?_) | (with_reducible refine ADR_nil ?_) | (with_reducible refine ADX_nil ?_)); (first | refine hK _ ?_ | refine hK _ _ ?_); clear hK K) | ((first | (with_reducible refine AX_reg0 fun K hK => ?_) | (refine AX_drawG1 tyOK (by kernel_rfl) (by rfl) (by kernel_rfl) fun K hK => ?_) | (refine AX_drawT tyOK (by kernel_rfl) (by decide +kernel) fun K hK => ?_) | (refine AX_drawM1 (by kernel_rfl) (by rfl) (by decide +kernel) fun K hK => ?_) | (refine AX_drawA tyOK (by kernel_rfl) (by decide +kernel) fun K hK => ?_)); (first | simp only [go_sem, preN, effOp, runF, alM, mapOp, alD2, kdOf2, Bool.not_false, Bool.not_true, reduceCtorEq] | simp only [go_sem, preN, effOp, runF, alM, mapOp, Bool.not_false, Bool.not_true, reduceCtorEq] | simp only [go_sem, preN, effOp, runF, alD2, kdOf2, Bool.not_false, Bool.not_true, reduceCtorEq] | simp only [go_sem, alD2, kdOf2, Bool.not_false, Bool.not_true, reduceCtorEq] | simp only [go_sem, preN, effOp, runF, Bool.not_false, Bool.not_true, reduceCtorEq] | simp only [go_sem])) | (first | ((refine XRes_fn (by rfl) hC ?_); (rintro r H' ⟨rfl, rfl⟩); (simp only [putL, List.set_cons_succ, List.set_cons_zero])) | ((refine XRes_fn (by rfl) hS ?_); (rintro r H' ⟨rfl, rfl⟩); (simp only [putL, List.set_cons_succ, List.set_cons_zero]))))); refine Wk.o ?_; (repeat revert hK K); exact h9)) : A := w h9
theorem Wc96ab {A B : Prop} (h9 : B) (w : B → A := by (intro h9; (repeat intro K hK); refine ⟨?_⟩; (repeat (first | (first | (with_reducible first | refine AX_block ?_ | refine AX_skip ?_ | refine AX_exit ?_ | refine AX_ret ?_ | refine AX_ift ?_ | refine AX_iff ?_ | refine AX_seq_k (fun K hK => ?_) | refine ContX.use (by assumption) ?_) | simp only [thenX, inBlockX, if_true, if_false, reduceCtorEq]) | (first | ((first | (with_reducible refine XRes_op tyOK ?_ ?_) | ((with_reducible first | refine ADF_op tyOK ?_ ?_ ?_ | refine ADX_op tyOK ?_ ?_ ?_); (focus rfl)) | (with_reducible refine ADR_alloc1 tyOK ?_ ?_) | ((with_reducible refine ADR_free1 tyOK ?_ ?_ ?_); (focus rfl)) | ((with_reducible refine ADR_free0 tyOK ?_ ?_ ?_); (focus rfl)) | ((with_reducible refine ADR_read1 tyOK ?_ ?_ ?_); (focus rfl)) | (with_reducible refine ADR_chg1 tyOK ?_ ?_)); (focus (first | (with_reducible rfl) | ((simp (disch := omega) only [go_sem]); done))); simp (disch := omega) only [go_sem , hs1, hs2, hs3, hs4, hs5, hs6, hs7, hs8, hs9, Nat.reduceLeDiff, List.length_set, Int.toNat_zero, Int.toNat_one, List.length_nil]; (first | (with_reducible refine XRes_id ?_) | (with_reducible refine ADF_id ?_) | (with_reducible refine ADR_id1 ?_) | (with_reducible refine ADX_id ?_))) | ((first | (with_reducible refine XRes_skip ?_ ?_) | (with_reducible refine ADF_skip (b := true) ?_ ?_) | (with_reducible refine ADX_skip ?_ ?_) | ((with_reducible refine ADR_skip1 ?_ ?_ ?_); (focus rfl))); (focus (first | rfl | ((simp (disch := omega) only [go_sem]); done))); (simp only [putL, List.set_cons_succ, List.set_cons_zero]))) | ((first | (with_reducible refine XRes_nil ?_) | (with_reducible refine ADF_nil ?_) | (with_reducible refine ADR_nil ?_) | (with_reducible refine ADX_nil ?_)); (first | refine hK _ ?_ | refine hK _ _ ?_); clear hK K) | ((first | (with_reducible refine AX_reg0 fun K hK => ?_) | (refine AX_drawG1 tyOK (by kernel_rfl) (by rfl) (by kernel_rfl) fun K hK => ?_) | (refine AX_drawT tyOK (by kernel_rfl) (by decide +kernel) fun K hK => ?_) | (refine AX_drawM1 (by kernel_rfl) (by rfl) (by decide +kernel) fun K hK => ?_) | (refine AX_drawA tyOK (by kernel_rfl) (by decide +kernel) fun K hK => ?_)); (first | simp only [go_sem, preN, effOp, runF, alM, mapOp, alD2, kdOf2, Bool.not_false, Bool.not_true, reduceCtorEq] | simp only [go_sem, preN, effOp, runF, alM, mapOp, Bool.not_false, Bool.not_true, reduceCtorEq] | simp only [go_sem, preN, effOp, runF, alD2, kdOf2, Bool.not_false, Bool.not_true, reduceCtorEq] | simp only [go_sem, alD2, kdOf2, Bool.not_false, Bool.not_true, reduceCtorEq] | simp only [go_sem, preN, effOp, runF, Bool.not_false, Bool.not_true, reduceCtorEq] | simp only [go_sem])) | (first | ((refine XRes_fn (by rfl) hC ?_); (rintro r H' ⟨rfl, rfl⟩); (simp only [putL, List.set_cons_succ, List.set_cons_zero])) | ((refine XRes_fn (by rfl) hS ?_); (rintro r H' ⟨rfl, rfl⟩); (simp only [putL, List.set_cons_succ, List.set_cons_zero]))) | (simp only [preN, effOp, runF, freeOp, roOp, alD, kdOf, isApp, List.any_cons, List.any_nil, List.take_succ_cons, List.take_zero, List.drop_succ_cons, List.drop_zero, Nat.reduceAdd, Bool.not_true, Bool.not_false, Bool.and_true, Bool.true_and, Bool.false_and, Bool.and_false, Bool.or_true, Bool.true_or, Bool.or_false, Bool.false_or, if_true, if_false, Bool.false_eq_true, reduceCtorEq, dsts, lapp_cons, lapp_nil, List.map_cons, List.map_nil, strip_mk, strip_gd, gix_some, List.getElem?_cons_succ, List.getElem?_cons_zero]) | (with_reducible refine XRes_nil ?_))); refine Wk.o ?_; (repeat revert hK K); exact h9)) : A := w h9
set_option maxRecDepth 100000 in
set_option maxHeartbeats 2000000 in
theorem pf_Imply {n : Nat} {L St Of Vl lv rs : List Int} (hT : TrS n L St Of Vl lv rs) (hLl : L.length ≤ 100000) (hSl : St.length ≤ 1000000) (x r : Int) : SF Try.prog 22 [.optr 2 0, lt (.int .i64 x), lt (.int .i64 r)] [some ⟨73, Of.map lint⟩, some ⟨70, Vl.map l8⟩, some ⟨57, [.osl 3 0 L.length 1, .osl 4 0 St.length 1, .osl 0 0 (n + 1) 3, .osl 1 0 Vl.length 1, lt (.bool true)]⟩, some ⟨3, L.map lint⟩, some ⟨3, St.map lint⟩] fun y H' => y = lt (.int .i64 (impE n L x r)) ∧ ((impE n L x r ≠ 0 ∧ H' = [some ⟨73, Of.map lint⟩, some ⟨70, Vl.map l8⟩, some ⟨57, [.osl 3 0 L.length 1, .osl 4 0 St.length 1, .osl 0 0 (n + 1) 3, .osl 1 0 Vl.length 1, lt (.bool true)]⟩, some ⟨3, L.map lint⟩, some ⟨3, St.map lint⟩]) ∨ (impE n L x r = 0 ∧ H' = [some ⟨73, (of3 Of (lvar x).toNat ((St.length : Int)) r L.length).map lint⟩, some ⟨70, ((Vl.set (vix x) 1).set (vix (-x)) (-1)).map l8⟩, some ⟨57, [.osl 6 0 (L.length + 1) 1, .osl 4 0 St.length 1, .osl 0 0 (n + 1) 3, .osl 1 0 Vl.length 1, lt (.bool true)]⟩, none, some ⟨3, St.map lint⟩, some ⟨3, [lint x]⟩, some ⟨3, (L ++ [x]).map lint⟩])) := by
  have hs1 := trivial; have hs2 := trivial; have hs3 := trivial; have hs4 := trivial; have hs5 := trivial; have hs6 := trivial; have hs7 := trivial; have hs8 := trivial; have hs9 := trivial
  have hC := trivial; have hS := trivial; have hV := trivial; have hI := trivial
  have hC := pf_tmay (trAtT n L St Of Vl) hT x
  unfold impE
  by_cases h1 : mayE n L x = 0
  · rw [if_pos h1]
    by_cases h2 : r < 0
    · rw [if_pos h2]
      rw [h1] at hC
      (refine SF_of_bodyX (aload tt) (aload_ok tyOK) Try.func22 rfl (by kernel_rfl) ?_; simp only [Try.ntmps22, List.length_cons, List.length_nil, Nat.reduceAdd, Nat.reduceSub, List.replicate_succ, List.replicate_zero, List.cons_append, List.nil_append])
      (refine Wk.o ?_; (repeat revert hK K); refine Wc96aa ?_; (repeat intro K hK); refine ⟨?_⟩)
      (simp only [bodyX]; refine ⟨_, by simp only [aresults, aresult, XS.as, Try.results22, aload, go_sem, Option.bind_some]; rfl, ?_⟩)
      exact ⟨rfl, .inl ⟨by decide, trivial⟩⟩
    · rw [if_neg h2]
      obtain ⟨m1, m2, m3⟩ := mayE_ok h1
      have hS := pf_put1 hT hLl hSl x r 0 m1 m2
      rw [h1] at hC
      (refine SF_of_bodyX (aload tt) (aload_ok tyOK) Try.func22 rfl (by kernel_rfl) ?_; simp only [Try.ntmps22, List.length_cons, List.length_nil, Nat.reduceAdd, Nat.reduceSub, List.replicate_succ, List.replicate_zero, List.cons_append, List.nil_append])
      (refine Wk.o ?_; (repeat revert hK K); refine Wc96aa ?_; (repeat intro K hK); refine ⟨?_⟩)
      (simp only [bodyX]; refine ⟨_, by simp only [aresults, aresult, XS.as, Try.results22, aload, go_sem, Option.bind_some]; rfl, ?_⟩)
      exact ⟨rfl, .inr ⟨trivial, trivial⟩⟩
  · rw [if_neg h1]
    generalize mayE n L x = E at *
    (refine SF_of_bodyX (aload tt) (aload_ok tyOK) Try.func22 rfl (by kernel_rfl) ?_; simp only [Try.ntmps22, List.length_cons, List.length_nil, Nat.reduceAdd, Nat.reduceSub, List.replicate_succ, List.replicate_zero, List.cons_append, List.nil_append])
    (refine Wk.o ?_; (repeat revert hK K); refine Wc96aa ?_; (repeat intro K hK); refine ⟨?_⟩)
    (simp only [bodyX]; refine ⟨_, by simp only [aresults, aresult, XS.as, Try.results22, aload, go_sem, Option.bind_some]; rfl, ?_⟩)
    exact ⟨rfl, .inl ⟨h1, trivial⟩⟩
set_option maxRecDepth 100000 in
set_option maxHeartbeats 2000000 in
theorem pf_Decide {n : Nat} {L St Of Vl lv rs : List Int} (hT : TrS n L St Of Vl lv rs) (hLl : L.length ≤ 100000) (hSl : St.length ≤ 100000) (x : Int) : SF Try.prog 21 [.optr 2 0, lt (.int .i64 x)] [some ⟨73, Of.map lint⟩, some ⟨70, Vl.map l8⟩, some ⟨57, [.osl 3 0 L.length 1, .osl 4 0 St.length 1, .osl 0 0 (n + 1) 3, .osl 1 0 Vl.length 1, lt (.bool true)]⟩, some ⟨3, L.map lint⟩, some ⟨3, St.map lint⟩] fun y H' => y = lt (.int .i64 (mayE n L x)) ∧ ((mayE n L x ≠ 0 ∧ H' = [some ⟨73, Of.map lint⟩, some ⟨70, Vl.map l8⟩, some ⟨57, [.osl 3 0 L.length 1, .osl 4 0 St.length 1, .osl 0 0 (n + 1) 3, .osl 1 0 Vl.length 1, lt (.bool true)]⟩, some ⟨3, L.map lint⟩, some ⟨3, St.map lint⟩]) ∨ (mayE n L x = 0 ∧ H' = [some ⟨73, (of3 Of (lvar x).toNat (((St.length + 1 : Nat) : Int)) (-1) L.length).map lint⟩, some ⟨70, ((Vl.set (vix x) 1).set (vix (-x)) (-1)).map l8⟩, some ⟨57, [.osl 8 0 (L.length + 1) 1, .osl 6 0 (St.length + 1) 1, .osl 0 0 (n + 1) 3, .osl 1 0 Vl.length 1, lt (.bool true)]⟩, none, none, some ⟨3, [lint L.length]⟩, some ⟨3, (St ++ [(L.length : Int)]).map lint⟩, some ⟨3, [lint x]⟩, some ⟨3, (L ++ [x]).map lint⟩])) := by
  have hs1 := trivial; have hs2 := trivial; have hs3 := trivial; have hs4 := trivial; have hs5 := trivial; have hs6 := trivial; have hs7 := trivial; have hs8 := trivial; have hs9 := trivial
  have hC := trivial; have hS := trivial; have hV := trivial; have hI := trivial
  have hC := pf_tmay (trAtT n L St Of Vl) hT x
  by_cases h1 : mayE n L x = 0
  · obtain ⟨m1, m2, m3⟩ := mayE_ok h1
    have hS := pf_put2 (tr_start hT) hLl (by simp; omega) x (-1) L.length m1 m2
    simp only [List.length_append, List.length_cons, List.length_nil, Nat.zero_add] at hS
    rw [h1] at hC ⊢
    (refine SF_of_bodyX (aload tt) (aload_ok tyOK) Try.func21 rfl (by kernel_rfl) ?_; simp only [Try.ntmps21, List.length_cons, List.length_nil, Nat.reduceAdd, Nat.reduceSub, List.replicate_succ, List.replicate_zero, List.cons_append, List.nil_append])
    (refine Wk.o ?_; (repeat revert hK K); refine Wc96ab ?_; (repeat intro K hK); refine ⟨?_⟩)
    refine ADR_grow1 tyOK (x := .osl 5 0 1 1) (new := [some ⟨3, [lt (.int .i64 (L.length : Int))]⟩]) (by rfl) (fun H1 hl1 => ?_) ?_
    · simp (disch := omega) only [go_sem , hs1, hs2, hs3, hs4, hs5, hs6, hs7, hs8, hs9, Nat.reduceLeDiff, List.length_set, Int.toNat_zero, Int.toNat_one, List.length_nil]
      rw [hl1]; rfl
    (simp only [putL, List.set_cons_succ, List.set_cons_zero])
    simp only [List.cons_append, List.nil_append]
    (refine Wk.o ?_; (repeat revert hK K); refine Wc96ab ?_; (repeat intro K hK); refine ⟨?_⟩)
    (simp only [bodyX]; refine ⟨_, by simp only [aresults, aresult, XS.as, Try.results21, aload, go_sem, Option.bind_some]; rfl, ?_⟩)
    exact ⟨rfl, .inr ⟨trivial, by first | rfl | trivial⟩⟩
  · generalize mayE n L x = E at *
    (refine SF_of_bodyX (aload tt) (aload_ok tyOK) Try.func21 rfl (by kernel_rfl) ?_; simp only [Try.ntmps21, List.length_cons, List.length_nil, Nat.reduceAdd, Nat.reduceSub, List.replicate_succ, List.replicate_zero, List.cons_append, List.nil_append])
    (refine Wk.o ?_; (repeat revert hK K); refine Wc96aa ?_; (repeat intro K hK); refine ⟨?_⟩)
    (simp only [bodyX]; refine ⟨_, by simp only [aresults, aresult, XS.as, Try.results21, aload, go_sem, Option.bind_some]; rfl, ?_⟩)
    exact ⟨rfl, .inl ⟨h1, trivial⟩⟩
end Go.Proofs.Ytfpmfjmjnmjcdaa
