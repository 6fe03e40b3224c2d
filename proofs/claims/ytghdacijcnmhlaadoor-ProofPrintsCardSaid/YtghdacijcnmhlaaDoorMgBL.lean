import Derived.Test.YtghdacijcnmhlaaDoorMgBK
import Derived.Test.YtghdacijcnmhlaaDoorMgBE
import Derived.Test.YtghdacijcnmhlaaDoorMgAL
import Derived.Test.YtghdacijcnmhlaaDoorMgBD
import Derived.Test.YtghdacijcnmhlaaDoorMgBG
import Derived.Test.YtghdacijcnmhlaaDoorMgBF
namespace Go.Proofs.YtghdacijcnmhlaaDoor
open Go.RowKit Go.Lib
set_option linter.unusedVariables false
set_option linter.unusedSimpArgs false
def prT (xs : List Stp) : List UInt8 := if ckE xs = 0 then pfB xs else []
theorem pfB_step {xs : List Stp} {k : Nat} (h : k < xs.length) : pfB (xs.take (k + 1)) = pfB (xs.take k) ++ stB (stAt xs k) := by
  unfold pfB
  rw [List.take_add_one, List.getElem?_eq_getElem h, stAt_get h, Option.toList_some, List.flatMap_append]
  simp
theorem pfB_le (xs : List Stp) (k : Nat) : (pfB (xs.take k)).length ≤ (pfB xs).length := by
  have e : pfB xs = pfB (xs.take k) ++ pfB (xs.drop k) := by unfold pfB; rw [← List.flatMap_append, List.take_append_drop]
  rw [e, List.length_append]; omega
theorem pfB_ne {xs : List Stp} (h : xs ≠ []) : pfB xs ≠ [] := by
  cases xs with
  | nil => exact absurd rfl h
  | cons x xs =>
    show stB x ++ pfB xs ≠ []
    unfold stB; simp
attribute [go_sem] rnL_u8C idL_u8C
theorem Wce1ea {A B : Prop} (h9 : B) (w : B → A := by (intro h9; (repeat intro K hK); refine ⟨?_⟩; (repeat (first | (first | (with_reducible first | refine AX_block ?_ | refine AX_skip ?_ | refine AX_exit ?_ | refine AX_ret ?_ | refine AX_ift ?_ | refine AX_iff ?_ | refine AX_seq_k (fun K hK => ?_) | refine ContX.use (by assumption) ?_) | simp only [thenX, inBlockX, if_true, if_false, reduceCtorEq]) | ((refine XRes_allocX tyOK (e := bT) (by rfl) (by rfl) (by rfl) ?_); (simp only [putL, List.set_cons_succ, List.set_cons_zero])) | (first | ((first | (with_reducible refine XRes_op tyOK ?_ ?_) | ((with_reducible first | refine ADF_op tyOK ?_ ?_ ?_ | refine ADX_op tyOK ?_ ?_ ?_); (focus rfl)) | (with_reducible refine ADR_alloc1 tyOK ?_ ?_) | ((with_reducible refine ADR_free1 tyOK ?_ ?_ ?_); (focus rfl)) | ((with_reducible refine ADR_free0 tyOK ?_ ?_ ?_); (focus rfl)) | ((with_reducible refine ADR_read1 tyOK ?_ ?_ ?_); (focus rfl)) | (with_reducible refine ADR_chg1 tyOK ?_ ?_)); (focus (first | (with_reducible rfl) | ((simp (disch := omega) only [go_sem]); done))); simp (disch := omega) only [go_sem , iInts, List.length_append, hs1, hs2, hs3, hs4, hs5, hs6, hs7, hs8, u8C_len, List.length_set, ba_app, ba_size, stG_0, stG_1, stG_2, stG_3, Int.toNat_zero, Int.toNat_one, Int.reduceToNat, Nat.zero_add, Int.toNat_natCast, List.length_cons, List.length_nil, Nat.reduceAdd]; (first | (with_reducible refine XRes_id ?_) | (with_reducible refine ADF_id ?_) | (with_reducible refine ADR_id1 ?_) | (with_reducible refine ADX_id ?_))) | ((first | (with_reducible refine XRes_skip ?_ ?_) | (with_reducible refine ADF_skip (b := true) ?_ ?_) | (with_reducible refine ADX_skip ?_ ?_) | ((with_reducible refine ADR_skip1 ?_ ?_ ?_); (focus rfl))); (focus (first | rfl | ((simp (disch := omega) only [go_sem]); done))); (simp only [putL, List.set_cons_succ, List.set_cons_zero]))) | ((first | (with_reducible refine XRes_nil ?_) | (with_reducible refine ADF_nil ?_) | (with_reducible refine ADR_nil ?_) | (with_reducible refine ADX_nil ?_)); (first | refine hK _ ?_ | refine hK _ _ ?_); clear hK K) | ((first | (with_reducible refine AX_reg0 fun K hK => ?_) | (refine AX_drawG1 tyOK (by kernel_rfl) (by rfl) (by kernel_rfl) fun K hK => ?_) | (refine AX_drawT tyOK (by kernel_rfl) (by decide +kernel) fun K hK => ?_) | (refine AX_drawM1 (by kernel_rfl) (by rfl) (by decide +kernel) fun K hK => ?_) | (refine AX_drawA tyOK (by kernel_rfl) (by decide +kernel) fun K hK => ?_)); (first | simp only [go_sem, preN, effOp, runF, alM, mapOp, alD2, kdOf2, Bool.not_false, Bool.not_true, reduceCtorEq] | simp only [go_sem, preN, effOp, runF, alM, mapOp, Bool.not_false, Bool.not_true, reduceCtorEq] | simp only [go_sem, preN, effOp, runF, alD2, kdOf2, Bool.not_false, Bool.not_true, reduceCtorEq] | simp only [go_sem, alD2, kdOf2, Bool.not_false, Bool.not_true, reduceCtorEq] | simp only [go_sem, preN, effOp, runF, Bool.not_false, Bool.not_true, reduceCtorEq] | simp only [go_sem])) | (first | (first | refine XTL (by rfl) hC ?_ | refine ATL tyOK (by rfl) hC ?_ | refine XTL (by rfl) hD ?_ | refine ATL tyOK (by rfl) hD ?_ | refine XTL (by rfl) hA ?_ | refine ATL tyOK (by rfl) hA ?_ | refine XTL (by rfl) hB ?_ | refine ATL tyOK (by rfl) hB ?_) | ((refine XRes_slot (by rfl) rfl (PF.tells (idsA rfl) (fun _ => rfl) hcl) ?_); (rintro r H' ⟨rfl, rfl⟩); (simp only [putL, List.set_cons_succ, List.set_cons_zero]))))); refine Wk.o ?_; (repeat revert hK K); exact h9)) : A := w h9
theorem Wce1eb {A B : Prop} (h9 : B) (w : B → A := by (intro h9; (repeat intro K hK); refine ⟨?_⟩; (repeat (first | (first | (with_reducible first | refine AX_block ?_ | refine AX_skip ?_ | refine AX_exit ?_ | refine AX_ret ?_ | refine AX_ift ?_ | refine AX_iff ?_ | refine AX_seq_k (fun K hK => ?_) | refine ContX.use (by assumption) ?_) | simp only [thenX, inBlockX, if_true, if_false, reduceCtorEq]) | (first | ((first | (with_reducible refine XRes_op tyOK ?_ ?_) | ((with_reducible first | refine ADF_op tyOK ?_ ?_ ?_ | refine ADX_op tyOK ?_ ?_ ?_); (focus rfl)) | (with_reducible refine ADR_alloc1 tyOK ?_ ?_) | ((with_reducible refine ADR_free1 tyOK ?_ ?_ ?_); (focus rfl)) | ((with_reducible refine ADR_free0 tyOK ?_ ?_ ?_); (focus rfl)) | ((with_reducible refine ADR_read1 tyOK ?_ ?_ ?_); (focus rfl)) | (with_reducible refine ADR_chg1 tyOK ?_ ?_)); (focus (first | (with_reducible rfl) | ((simp (disch := omega) only [go_sem]); done))); simp (disch := omega) only [go_sem , iInts, List.length_append, hs1, hs2, hs3, hs4, hs5, hs6, hs7, hs8, u8C_len, List.length_set, ba_app, ba_size, stG_0, stG_1, stG_2, stG_3, Int.toNat_zero, Int.toNat_one, Int.reduceToNat, Nat.zero_add, Int.toNat_natCast, List.length_cons, List.length_nil, Nat.reduceAdd]; (first | (with_reducible refine XRes_id ?_) | (with_reducible refine ADF_id ?_) | (with_reducible refine ADR_id1 ?_) | (with_reducible refine ADX_id ?_))) | ((first | (with_reducible refine XRes_skip ?_ ?_) | (with_reducible refine ADF_skip (b := true) ?_ ?_) | (with_reducible refine ADX_skip ?_ ?_) | ((with_reducible refine ADR_skip1 ?_ ?_ ?_); (focus rfl))); (focus (first | rfl | ((simp (disch := omega) only [go_sem]); done))); (simp only [putL, List.set_cons_succ, List.set_cons_zero]))) | ((first | (with_reducible refine XRes_nil ?_) | (with_reducible refine ADF_nil ?_) | (with_reducible refine ADR_nil ?_) | (with_reducible refine ADX_nil ?_)); (first | refine hK _ ?_ | refine hK _ _ ?_); clear hK K) | (first | (first | refine XTL (by rfl) hC ?_ | refine ATL tyOK (by rfl) hC ?_ | refine XTL (by rfl) hD ?_ | refine ATL tyOK (by rfl) hD ?_ | refine XTL (by rfl) hA ?_ | refine ATL tyOK (by rfl) hA ?_ | refine XTL (by rfl) hB ?_ | refine ATL tyOK (by rfl) hB ?_) | ((refine XRes_slot (by rfl) rfl (PF.tells (idsA rfl) (fun _ => rfl) hcl) ?_); (rintro r H' ⟨rfl, rfl⟩); (simp only [putL, List.set_cons_succ, List.set_cons_zero]))) | ((with_reducible refine AX_reg0 fun K hK => ?_); simp only [go_sem]))); refine Wk.o ?_; (repeat revert hK K); exact h9)) : A := w h9
set_option maxRecDepth 100000 in
set_option maxHeartbeats 4000000 in
theorem pf_prPrintNo (xs : List Stp) (hx : StLen xs) (he : ckE xs ≠ 0) : PF Tryd.prog 14 [.iv (iSts xs)] fun r H' => r = .tup [lt (.string (ba [])), lt (.int .i64 (ckE xs))] ∧ H' = [] := by
  refine SF.forgetAll ?_
  have hs1 := trivial; have hs2 := trivial; have hs3 := trivial; have hs4 := trivial; have hs5 := trivial; have hs6 := trivial; have hs7 := trivial; have hs8 := trivial; have hC := trivial; have hD := trivial; have hA := trivial; have hB := trivial; have hcl := trivial
  have hC := pf_prCheck xs hx
  have hs1 : (ckE xs != 0) = true := by simpa using he
  unfold iSts at *
  (refine SF_of_bodyX (aload tt) (aload_ok tyOK) Tryd.func14 rfl (by kernel_rfl) ?_; simp only [Tryd.ntmps14, List.length_cons, List.length_nil, Nat.reduceAdd, Nat.reduceSub, List.replicate_succ, List.replicate_zero, List.cons_append, List.nil_append])
  (refine Wk.o ?_; (repeat revert hK K); refine Wce1ea ?_; (repeat intro K hK); refine ⟨?_⟩)
  (simp only [bodyX]; refine ⟨_, by simp only [aresults, aresult, XS.as, Tryd.results14, aload, go_sem, Option.bind_some]; rfl, ?_⟩)
  exact ⟨ids_idB rfl, rfl, trivial⟩
set_option maxRecDepth 100000 in
set_option maxHeartbeats 4000000 in
theorem pf_prPrint0 : PF Tryd.prog 14 [.iv (iSts [])] fun r H' => r = .tup [lt (.string (ba [])), lt (.int .i64 0)] ∧ H' = [] := by
  refine SF.forgetAll ?_
  have hs1 := trivial; have hs2 := trivial; have hs3 := trivial; have hs4 := trivial; have hs5 := trivial; have hs6 := trivial; have hs7 := trivial; have hs8 := trivial; have hC := trivial; have hD := trivial; have hA := trivial; have hB := trivial; have hcl := trivial
  have hC := pf_prCheck [] ⟨by simp, fun k => by simp [stAt, st0]⟩
  have e := (ck_ok (xs := []) (by simp)).2
  rw [e] at hC
  unfold iSts at *
  (refine SF_of_bodyX (aload tt) (aload_ok tyOK) Tryd.func14 rfl (by kernel_rfl) ?_; simp only [Tryd.ntmps14, List.length_cons, List.length_nil, Nat.reduceAdd, Nat.reduceSub, List.replicate_succ, List.replicate_zero, List.cons_append, List.nil_append])
  (refine Wk.o ?_; (repeat revert hK K); refine Wce1ea ?_; (repeat intro K hK); refine ⟨?_⟩)
  refine AX_wh (σ := Unit) [] (fun _ => []) (fun _ => [some ⟨bT, [lt (.pointer none), lt (.slice none 0 0)]⟩]) (fun _ => []) (fun _ => True) (fun _ => 0) () (fun d => rfl) rfl rfl trivial ?_
  rintro k d fr hfr -
  simp only [updS, deadS] at hfr
  subst hfr
  (refine Wk.o ?_; (repeat revert hK K); refine Wce1ea ?_; (repeat intro K hK); refine ⟨?_⟩)
  refine XRes_fn (by rfl) (sf_bstr0 (o := 0) (by rfl)) ?_
  rintro r H1 ⟨rfl, rfl⟩
  (simp only [putL, List.set_cons_succ, List.set_cons_zero])
  (refine Wk.o ?_; (repeat revert hK K); refine Wce1ea ?_; (repeat intro K hK); refine ⟨?_⟩)
  (simp only [bodyX]; refine ⟨_, by simp only [aresults, aresult, XS.as, Tryd.results14, aload, go_sem, Option.bind_some]; rfl, ?_⟩)
  exact ⟨ids_idB rfl, rfl, trivial⟩
set_option maxRecDepth 100000 in
set_option maxHeartbeats 8000000 in
theorem pf_prPrint1 (xs : List Stp) (hx : StLen xs) (h0 : xs ≠ []) (ho : ∀ s ∈ xs, stOk s) (hb : (pfB xs).length ≤ 1000000) : PF Tryd.prog 14 [.iv (iSts xs)] fun r H' => r = .tup [lt (.string (ba (pfB xs))), lt (.int .i64 0)] ∧ H' = [] := by
  refine SF.forgetAll ?_
  have hs1 := trivial; have hs2 := trivial; have hs3 := trivial; have hs4 := trivial; have hs5 := trivial; have hs6 := trivial; have hs7 := trivial; have hs8 := trivial; have hC := trivial; have hD := trivial; have hA := trivial; have hB := trivial; have hcl := trivial
  have hC := pf_prCheck xs hx
  rw [(ck_ok ho).2] at hC
  have hxl := hx.len
  unfold iSts at *
  (refine SF_of_bodyX (aload tt) (aload_ok tyOK) Tryd.func14 rfl (by kernel_rfl) ?_; simp only [Tryd.ntmps14, List.length_cons, List.length_nil, Nat.reduceAdd, Nat.reduceSub, List.replicate_succ, List.replicate_zero, List.cons_append, List.nil_append])
  (refine Wk.o ?_; (repeat revert hK K); refine Wce1ea ?_; (repeat intro K hK); refine ⟨?_⟩)
  refine AX_cellNew 0 5 1 1 _ rfl rfl ?_
  (simp only [putL, List.set_cons_succ, List.set_cons_zero])
  (refine AWH (σ := Nat × List UInt8 × Bool) [21, 22, 23, 8, 9, 24, 25, 26, 27, 28, 29, 30, 31, 32, 2, 3, 33] (fun (k, x, b) => [(20, lint k)]) (fun (k, x, b) => [some ⟨bT, [pz b, .osl 1 0 x.length 1]⟩, some ⟨5, u8C x⟩]) (fun (k, x, b) => []) (fun (k, x, b) => k ≤ xs.length ∧ x = pfB (xs.take k)) (fun (k, x, b) => xs.length - k) (0, [], false) (by first | exact ⟨Nat.zero_le _, by simp [pfB]⟩) ?_; rintro ⟨k, x, b⟩ d fr hfr ⟨hk, hx0⟩; simp only [updS, deadS, List.set_cons_succ, List.set_cons_zero, lint] at hfr; subst hfr; (try dsimp only))
  by_cases hlt : k < xs.length
  · have hs2 : decide ((k : Int) < (xs.length : Int)) = true := decide_eq_true (by omega)
    have hst := pfB_step hlt
    have hle := pfB_le xs (k + 1)
    rw [hst, List.length_append] at hle
    have hok : stOk (stAt xs k) := by rw [stAt_get hlt]; exact ho _ (List.getElem_mem hlt)
    rw [← hx0] at hst hle
    have hxl2 : x.length ≤ 1000000 := by omega
    have hpz : pz b = lt (.pointer none) ∨ pz b = .xptr 0 2 := by cases b; exact .inl rfl; exact .inr rfl
    by_cases hk2 : (stAt xs k).k = 2
    · have hs4 : ((stAt xs k).k == 2) = true := by simpa using hk2
      have hcl := pf_deleted (stAt xs k) hok hk2
      unfold iInts at hcl
      generalize stB (stAt xs k) = y at *
      have hs5 : decide ((1000000 : Int) < ((x.length : Int) + (y.length : Int))) = false := decide_eq_false (by omega)
      (refine Wk.o ?_; (repeat revert hK K); refine Wce1ea ?_; (repeat intro K hK); refine ⟨?_⟩)
      refine XRes_fn (by rfl) (sf_bws (o := 0) (q := 1) (l := x) (by rfl) hpz (by rfl) (by decide) (by omega) y (by omega)) ?_
      rintro r H1 ⟨rfl, rfl⟩
      (simp only [putL, List.set_cons_succ, List.set_cons_zero])
      (refine Wk.o ?_; (repeat revert hK K); refine Wce1ea ?_; (repeat intro K hK); refine ⟨?_⟩)
      refine XRes_fn (by rfl) (sf_blen (o := 0) (by rfl)) ?_
      rintro r H1 ⟨rfl, rfl⟩
      (simp only [putL, List.set_cons_succ, List.set_cons_zero])
      (refine Wk.o ?_; (repeat revert hK K); refine Wce1ea ?_; (repeat intro K hK); refine ⟨?_⟩)
      exact whx_ren [0, 3] (k + 1, x ++ y, true) ⟨by omega, hst.symm⟩ (by (first | omega | (dsimp only; omega) | (simp only; omega))) rfl (by decide) (by decide) (by (simp (disch := omega) only [go_sem, lint, pz , iInts, List.length_append, hs1, hs2, hs3, hs4, hs5, hs6, hs7, hs8, u8C_len, List.length_set, ba_app, ba_size, stG_0, stG_1, stG_2, stG_3, Int.toNat_zero, Int.toNat_one, Int.reduceToNat, Nat.zero_add, Int.toNat_natCast, List.length_cons, List.length_nil, Nat.reduceAdd])) (by (simp (disch := omega) only [go_sem, lint, pz , iInts, List.length_append, hs1, hs2, hs3, hs4, hs5, hs6, hs7, hs8, u8C_len, List.length_set, ba_app, ba_size, stG_0, stG_1, stG_2, stG_3, Int.toNat_zero, Int.toNat_one, Int.reduceToNat, Nat.zero_add, Int.toNat_natCast, List.length_cons, List.length_nil, Nat.reduceAdd])) (by (simp (disch := omega) only [go_sem, lint, pz , iInts, List.length_append, hs1, hs2, hs3, hs4, hs5, hs6, hs7, hs8, u8C_len, List.length_set, ba_app, ba_size, stG_0, stG_1, stG_2, stG_3, Int.toNat_zero, Int.toNat_one, Int.reduceToNat, Nat.zero_add, Int.toNat_natCast, List.length_cons, List.length_nil, Nat.reduceAdd])) (fun d => by first | ((simp (disch := omega) only [go_sem, lint, pz , iInts, List.length_append, hs1, hs2, hs3, hs4, hs5, hs6, hs7, hs8, u8C_len, List.length_set, ba_app, ba_size, stG_0, stG_1, stG_2, stG_3, Int.toNat_zero, Int.toNat_one, Int.reduceToNat, Nat.zero_add, Int.toNat_natCast, List.length_cons, List.length_nil, Nat.reduceAdd]); done) | ((simp (disch := omega) only [go_sem, lint, pz , iInts, List.length_append, hs1, hs2, hs3, hs4, hs5, hs6, hs7, hs8, u8C_len, List.length_set, ba_app, ba_size, stG_0, stG_1, stG_2, stG_3, Int.toNat_zero, Int.toNat_one, Int.reduceToNat, Nat.zero_add, Int.toNat_natCast, List.length_cons, List.length_nil, Nat.reduceAdd]); rfl))
    · have hs4 : ((stAt xs k).k == 2) = false := by simpa using hk2
      have hcl := pf_added (stAt xs k) hok hk2
      unfold iInts at hcl
      generalize stB (stAt xs k) = y at *
      have hs5 : decide ((1000000 : Int) < ((x.length : Int) + (y.length : Int))) = false := decide_eq_false (by omega)
      (refine Wk.o ?_; (repeat revert hK K); refine Wce1ea ?_; (repeat intro K hK); refine ⟨?_⟩)
      refine XRes_fn (by rfl) (sf_bws (o := 0) (q := 1) (l := x) (by rfl) hpz (by rfl) (by decide) (by omega) y (by omega)) ?_
      rintro r H1 ⟨rfl, rfl⟩
      (simp only [putL, List.set_cons_succ, List.set_cons_zero])
      (refine Wk.o ?_; (repeat revert hK K); refine Wce1ea ?_; (repeat intro K hK); refine ⟨?_⟩)
      refine XRes_fn (by rfl) (sf_blen (o := 0) (by rfl)) ?_
      rintro r H1 ⟨rfl, rfl⟩
      (simp only [putL, List.set_cons_succ, List.set_cons_zero])
      (refine Wk.o ?_; (repeat revert hK K); refine Wce1ea ?_; (repeat intro K hK); refine ⟨?_⟩)
      exact whx_ren [0, 3] (k + 1, x ++ y, true) ⟨by omega, hst.symm⟩ (by (first | omega | (dsimp only; omega) | (simp only; omega))) rfl (by decide) (by decide) (by (simp (disch := omega) only [go_sem, lint, pz , iInts, List.length_append, hs1, hs2, hs3, hs4, hs5, hs6, hs7, hs8, u8C_len, List.length_set, ba_app, ba_size, stG_0, stG_1, stG_2, stG_3, Int.toNat_zero, Int.toNat_one, Int.reduceToNat, Nat.zero_add, Int.toNat_natCast, List.length_cons, List.length_nil, Nat.reduceAdd])) (by (simp (disch := omega) only [go_sem, lint, pz , iInts, List.length_append, hs1, hs2, hs3, hs4, hs5, hs6, hs7, hs8, u8C_len, List.length_set, ba_app, ba_size, stG_0, stG_1, stG_2, stG_3, Int.toNat_zero, Int.toNat_one, Int.reduceToNat, Nat.zero_add, Int.toNat_natCast, List.length_cons, List.length_nil, Nat.reduceAdd])) (by (simp (disch := omega) only [go_sem, lint, pz , iInts, List.length_append, hs1, hs2, hs3, hs4, hs5, hs6, hs7, hs8, u8C_len, List.length_set, ba_app, ba_size, stG_0, stG_1, stG_2, stG_3, Int.toNat_zero, Int.toNat_one, Int.reduceToNat, Nat.zero_add, Int.toNat_natCast, List.length_cons, List.length_nil, Nat.reduceAdd])) (fun d => by first | ((simp (disch := omega) only [go_sem, lint, pz , iInts, List.length_append, hs1, hs2, hs3, hs4, hs5, hs6, hs7, hs8, u8C_len, List.length_set, ba_app, ba_size, stG_0, stG_1, stG_2, stG_3, Int.toNat_zero, Int.toNat_one, Int.reduceToNat, Nat.zero_add, Int.toNat_natCast, List.length_cons, List.length_nil, Nat.reduceAdd]); done) | ((simp (disch := omega) only [go_sem, lint, pz , iInts, List.length_append, hs1, hs2, hs3, hs4, hs5, hs6, hs7, hs8, u8C_len, List.length_set, ba_app, ba_size, stG_0, stG_1, stG_2, stG_3, Int.toNat_zero, Int.toNat_one, Int.reduceToNat, Nat.zero_add, Int.toNat_natCast, List.length_cons, List.length_nil, Nat.reduceAdd]); rfl))
  · obtain rfl : k = xs.length := by omega
    rw [List.take_length] at hx0
    have hs2 : decide ((xs.length : Int) < (xs.length : Int)) = false := decide_eq_false (by omega)
    (refine Wk.o ?_; (repeat revert hK K); refine Wce1ea ?_; (repeat intro K hK); refine ⟨?_⟩)
    refine XRes_fn (by rfl) (sf_bstr (o := 0) (q := 1) (l := x) (by rfl) (by rfl) (by rw [hx0]; exact pfB_ne h0) (by rw [hx0]; omega)) ?_
    rintro r H1 ⟨rfl, rfl⟩
    (simp only [putL, List.set_cons_succ, List.set_cons_zero])
    (refine Wk.o ?_; (repeat revert hK K); refine Wce1ea ?_; (repeat intro K hK); refine ⟨?_⟩)
    (simp only [bodyX]; refine ⟨_, by simp only [aresults, aresult, XS.as, Tryd.results14, aload, go_sem, Option.bind_some]; rfl, ?_⟩)
    exact ⟨ids_idB rfl, by rw [← hx0]; rfl, trivial⟩
theorem pf_prPrint (xs : List Stp) (hx : StLen xs) (hb : ckE xs = 0 → (pfB xs).length ≤ 1000000) : PF Tryd.prog 14 [.iv (iSts xs)] fun r H' => r = .tup [lt (.string (ba (prT xs))), lt (.int .i64 (ckE xs))] ∧ H' = [] := by
  unfold prT
  by_cases he : ckE xs = 0
  · rw [if_pos he, he]
    by_cases h0 : xs = []
    · subst h0; exact pf_prPrint0
    · exact pf_prPrint1 xs hx h0 (ckE_zero.1 he) (hb he)
  · rw [if_neg he]; exact pf_prPrintNo xs hx he
def nsB (L : List Int) : List UInt8 := L.flatMap (fun x => itoa x ++ [32]) ++ [48]
theorem nsB_ls : ∀ L : List Int, 32 :: nsB L = lsB L ++ [32, 48]
  | [] => rfl
  | x :: L => by
    have ih := nsB_ls L
    have e : nsB (x :: L) = itoa x ++ 32 :: nsB L := by unfold nsB; simp
    have e2 : lsB (x :: L) = 32 :: itoa x ++ lsB L := rfl
    rw [e, e2, ih]; simp
theorem nsB_len {L : List Int} (h : ∀ x ∈ L, -10000000 ≤ x ∧ x ≤ 10000000) : (nsB L).length ≤ L.length * 10 + 1 := by
  have h1 := congrArg List.length (nsB_ls L)
  have h2 := lsB_len h
  rw [List.length_cons, List.length_append] at h1
  simp only [List.length_cons, List.length_nil] at h1
  omega
theorem nsB_step {L : List Int} {k : Nat} (h : k < L.length) : (L.take (k + 1)).flatMap (fun x => itoa x ++ [32]) = ((L.take k).flatMap (fun x => itoa x ++ [32]) ++ itoa (L.getD k 0)) ++ [32] := by
  rw [List.take_add_one, List.getElem?_eq_getElem h, List.getD_eq_getElem?_getD, List.getElem?_eq_getElem h, Option.toList_some, List.flatMap_append]
  simp
theorem stB_ns {s : Stp} (x : List UInt8) (h : s.k ≠ 2) : ((((x ++ itoa s.i) ++ [32]) ++ nsB s.L) ++ [32]) ++ nsB s.H ++ [10] = x ++ stB s := by
  rw [stB_add h]
  have h1 := nsB_ls s.L
  have h2 := nsB_ls s.H
  have e : ((((x ++ itoa s.i) ++ [32]) ++ nsB s.L) ++ [32]) ++ nsB s.H ++ [10] = x ++ (itoa s.i ++ ((32 :: nsB s.L) ++ ((32 :: nsB s.H) ++ [10]))) := by simp
  rw [e, h1, h2]; simp
theorem stB_nd {s : Stp} (x : List UInt8) (h : s.k = 2) : ((((x ++ itoa s.i) ++ [32]) ++ [100, 32])) ++ nsB s.H ++ [10] = x ++ stB s := by
  rw [stB_del h]
  have h2 := nsB_ls s.H
  have e : ((((x ++ itoa s.i) ++ [32]) ++ [100, 32])) ++ nsB s.H ++ [10] = x ++ (itoa s.i ++ ([32, 100] ++ ((32 :: nsB s.H) ++ [10]))) := by simp
  rw [e, h2]; simp
set_option maxRecDepth 100000 in
set_option maxHeartbeats 4000000 in
theorem pf_rnumbers (L : List Int) (hL : L.length ≤ 1000) (hx : ∀ x ∈ L, -10000000 ≤ x ∧ x ≤ 10000000) : PF Tryd.prog 35 [.iv (iInts L)] fun r H' => r = lt (.string (ba (nsB L))) ∧ H' = [] := by
  refine SF.forgetAll ?_
  have hs1 := trivial; have hs2 := trivial; have hs3 := trivial; have hs4 := trivial; have hs5 := trivial; have hs6 := trivial; have hs7 := trivial; have hs8 := trivial; have hC := trivial; have hD := trivial; have hA := trivial; have hB := trivial; have hcl := trivial
  have htl := nsB_len hx
  have hs5 : (⟨#[32]⟩ : ByteArray) = ba [32] := rfl
  have hs6 : (⟨#[48]⟩ : ByteArray) = ba [48] := rfl
  unfold iInts
  (refine SF_of_bodyX (aload tt) (aload_ok tyOK) Tryd.func35 rfl (by kernel_rfl) ?_; simp only [Tryd.ntmps35, List.length_cons, List.length_nil, Nat.reduceAdd, Nat.reduceSub, List.replicate_succ, List.replicate_zero, List.cons_append, List.nil_append])
  (refine Wk.o ?_; (repeat revert hK K); refine Wce1eb ?_; (repeat intro K hK); refine ⟨?_⟩)
  (refine AWH (σ := Nat × List UInt8) [5, 6, 7, 8, 11, 12, 13, 14, 15, 16, 17, 18, 9, 10] (fun (k, x) => [(4, lint k), (3, lt (.string (ba x)))]) (fun (k, x) => []) (fun (k, x) => []) (fun (k, x) => k ≤ L.length ∧ x = (L.take k).flatMap (fun x => itoa x ++ [32])) (fun (k, x) => L.length - k) (0, []) (by first | exact ⟨Nat.zero_le _, by simp⟩) ?_; rintro ⟨k, x⟩ d fr hfr ⟨hk, hx0⟩; simp only [updS, deadS, List.set_cons_succ, List.set_cons_zero, lint] at hfr; subst hfr; (try dsimp only))
  have hxl : x.length ≤ 10000 := by
    rw [hx0]
    have h1 := nsB_len (L := L.take k) fun y hy => hx y (List.mem_of_mem_take hy)
    unfold nsB at h1
    rw [List.length_take, List.length_append, List.length_singleton] at h1; omega
  by_cases hlt : k < L.length
  · have hs2 : decide ((k : Int) < (L.length : Int)) = true := decide_eq_true (by omega)
    have hst := nsB_step hlt
    have hxk := hx (L.getD k 0) (by rw [List.getD_eq_getElem?_getD, List.getElem?_eq_getElem hlt]; exact List.getElem_mem hlt)
    have hC := pf_rDigits (L.getD k 0) (by omega) (by omega)
    have hil := itoa_len9 hxk
    rw [← hx0] at hst
    generalize itoa (L.getD k 0) = y at *
    (refine Wk.o ?_; (repeat revert hK K); refine Wce1eb ?_; (repeat intro K hK); refine ⟨?_⟩)
    exact whx_ren [] (k + 1, x ++ y ++ [32]) ⟨by omega, hst.symm⟩ (by (first | omega | (dsimp only; omega) | (simp only; omega))) rfl (by decide) (by decide) (by (simp (disch := omega) only [go_sem, lint, pz , iInts, List.length_append, hs1, hs2, hs3, hs4, hs5, hs6, hs7, hs8, u8C_len, List.length_set, ba_app, ba_size, stG_0, stG_1, stG_2, stG_3, Int.toNat_zero, Int.toNat_one, Int.reduceToNat, Nat.zero_add, Int.toNat_natCast, List.length_cons, List.length_nil, Nat.reduceAdd])) (by (simp (disch := omega) only [go_sem, lint, pz , iInts, List.length_append, hs1, hs2, hs3, hs4, hs5, hs6, hs7, hs8, u8C_len, List.length_set, ba_app, ba_size, stG_0, stG_1, stG_2, stG_3, Int.toNat_zero, Int.toNat_one, Int.reduceToNat, Nat.zero_add, Int.toNat_natCast, List.length_cons, List.length_nil, Nat.reduceAdd])) (by (simp (disch := omega) only [go_sem, lint, pz , iInts, List.length_append, hs1, hs2, hs3, hs4, hs5, hs6, hs7, hs8, u8C_len, List.length_set, ba_app, ba_size, stG_0, stG_1, stG_2, stG_3, Int.toNat_zero, Int.toNat_one, Int.reduceToNat, Nat.zero_add, Int.toNat_natCast, List.length_cons, List.length_nil, Nat.reduceAdd])) (fun d => by first | ((simp (disch := omega) only [go_sem, lint, pz , iInts, List.length_append, hs1, hs2, hs3, hs4, hs5, hs6, hs7, hs8, u8C_len, List.length_set, ba_app, ba_size, stG_0, stG_1, stG_2, stG_3, Int.toNat_zero, Int.toNat_one, Int.reduceToNat, Nat.zero_add, Int.toNat_natCast, List.length_cons, List.length_nil, Nat.reduceAdd]); done) | ((simp (disch := omega) only [go_sem, lint, pz , iInts, List.length_append, hs1, hs2, hs3, hs4, hs5, hs6, hs7, hs8, u8C_len, List.length_set, ba_app, ba_size, stG_0, stG_1, stG_2, stG_3, Int.toNat_zero, Int.toNat_one, Int.reduceToNat, Nat.zero_add, Int.toNat_natCast, List.length_cons, List.length_nil, Nat.reduceAdd]); rfl))
  · obtain rfl : k = L.length := by omega
    rw [List.take_length] at hx0
    have hs2 : decide ((L.length : Int) < (L.length : Int)) = false := decide_eq_false (by omega)
    (refine Wk.o ?_; (repeat revert hK K); refine Wce1eb ?_; (repeat intro K hK); refine ⟨?_⟩)
    (simp only [bodyX]; refine ⟨_, by simp only [aresults, aresult, XS.as, Tryd.results35, aload, go_sem, Option.bind_some]; rfl, ?_⟩)
    exact ⟨ids_idB rfl, by rw [hx0]; rfl, trivial⟩
set_option maxRecDepth 100000 in
set_option maxHeartbeats 4000000 in
theorem pf_rpPrintNo (xs : List Stp) (hx : StLen xs) (he : ckE xs ≠ 0) : PF Tryd.prog 15 [.iv (iSts xs)] fun r H' => r = .tup [lt (.string (ba [])), lt (.int .i64 (ckE xs))] ∧ H' = [] := by
  refine SF.forgetAll ?_
  have hs1 := trivial; have hs2 := trivial; have hs3 := trivial; have hs4 := trivial; have hs5 := trivial; have hs6 := trivial; have hs7 := trivial; have hs8 := trivial; have hC := trivial; have hD := trivial; have hA := trivial; have hB := trivial; have hcl := trivial
  have hC := pf_rpCheck xs hx
  have hs1 : (ckE xs != 0) = true := by simpa using he
  unfold iSts at *
  (refine SF_of_bodyX (aload tt) (aload_ok tyOK) Tryd.func15 rfl (by kernel_rfl) ?_; simp only [Tryd.ntmps15, List.length_cons, List.length_nil, Nat.reduceAdd, Nat.reduceSub, List.replicate_succ, List.replicate_zero, List.cons_append, List.nil_append])
  (refine Wk.o ?_; (repeat revert hK K); refine Wce1eb ?_; (repeat intro K hK); refine ⟨?_⟩)
  (simp only [bodyX]; refine ⟨_, by simp only [aresults, aresult, XS.as, Tryd.results15, aload, go_sem, Option.bind_some]; rfl, ?_⟩)
  exact ⟨ids_idB rfl, rfl, trivial⟩
set_option maxRecDepth 100000 in
set_option maxHeartbeats 8000000 in
theorem pf_rpPrint1 (xs : List Stp) (hx : StLen xs) (ho : ∀ s ∈ xs, stOk s) (hb : (pfB xs).length ≤ 1000000) : PF Tryd.prog 15 [.iv (iSts xs)] fun r H' => r = .tup [lt (.string (ba (pfB xs))), lt (.int .i64 0)] ∧ H' = [] := by
  refine SF.forgetAll ?_
  have hs1 := trivial; have hs2 := trivial; have hs3 := trivial; have hs4 := trivial; have hs5 := trivial; have hs6 := trivial; have hs7 := trivial; have hs8 := trivial; have hC := trivial; have hD := trivial; have hA := trivial; have hB := trivial; have hcl := trivial
  have hC := pf_rpCheck xs hx
  rw [(ck_ok ho).2] at hC
  have hxl := hx.len
  have hs5 : (⟨#[32]⟩ : ByteArray) = ba [32] := rfl
  have hs6 : (⟨#[10]⟩ : ByteArray) = ba [10] := rfl
  have hs7 : (⟨#[100, 32]⟩ : ByteArray) = ba [100, 32] := rfl
  unfold iSts at *
  (refine SF_of_bodyX (aload tt) (aload_ok tyOK) Tryd.func15 rfl (by kernel_rfl) ?_; simp only [Tryd.ntmps15, List.length_cons, List.length_nil, Nat.reduceAdd, Nat.reduceSub, List.replicate_succ, List.replicate_zero, List.cons_append, List.nil_append])
  (refine Wk.o ?_; (repeat revert hK K); refine Wce1eb ?_; (repeat intro K hK); refine ⟨?_⟩)
  (refine AWH (σ := Nat × List UInt8) [16, 17, 18, 19, 22, 23, 24, 25, 26, 27, 28, 29, 30, 31, 32, 33, 34, 35, 36, 37, 38, 39, 40, 41, 42, 43, 44, 45, 46, 47, 48, 49, 50, 51, 52, 53, 54, 55, 56, 20, 21] (fun (k, x) => [(7, lint k), (6, lt (.string (ba x)))]) (fun (k, x) => []) (fun (k, x) => []) (fun (k, x) => k ≤ xs.length ∧ x = pfB (xs.take k)) (fun (k, x) => xs.length - k) (0, []) (by first | exact ⟨Nat.zero_le _, by simp [pfB]⟩) ?_; rintro ⟨k, x⟩ d fr hfr ⟨hk, hx0⟩; simp only [updS, deadS, List.set_cons_succ, List.set_cons_zero, lint] at hfr; subst hfr; (try dsimp only))
  have hle0 := pfB_le xs k
  rw [← hx0] at hle0
  have hxl2 : x.length ≤ 1000000 := by omega
  by_cases hlt : k < xs.length
  · have hs2 : decide ((k : Int) < (xs.length : Int)) = true := decide_eq_true (by omega)
    have hst := pfB_step hlt
    have hok : stOk (stAt xs k) := by rw [stAt_get hlt]; exact ho _ (List.getElem_mem hlt)
    rw [← hx0] at hst
    obtain ⟨a, b, c, d, e⟩ := stOk_fit hok
    have hD := pf_rDigits (stAt xs k).i (by omega) (by omega)
    have hA := pf_rnumbers (stAt xs k).L b d
    have hB := pf_rnumbers (stAt xs k).H c e
    have l1 := itoa_len9 a
    have l2 := nsB_len d
    have l3 := nsB_len e
    have hN := stB_ns (s := stAt xs k) x
    have hM := stB_nd (s := stAt xs k) x
    unfold iInts at hA hB
    generalize nsB (stAt xs k).L = tL at *
    generalize nsB (stAt xs k).H = tH at *
    generalize itoa (stAt xs k).i = tI at *
    by_cases hk2 : (stAt xs k).k = 2
    · have hs4 : ((stAt xs k).k == 2) = true := by simpa using hk2
      have hM := hM hk2
      rw [← hM] at hst
      (refine Wk.o ?_; (repeat revert hK K); refine Wce1eb ?_; (repeat intro K hK); refine ⟨?_⟩)
      exact whx_ren [] (k + 1, x ++ tI ++ [32] ++ [100, 32] ++ tH ++ [10]) ⟨by omega, hst.symm⟩ (by (first | omega | (dsimp only; omega) | (simp only; omega))) rfl (by decide) (by decide) (by (simp (disch := omega) only [go_sem, lint, pz , iInts, List.length_append, hs1, hs2, hs3, hs4, hs5, hs6, hs7, hs8, u8C_len, List.length_set, ba_app, ba_size, stG_0, stG_1, stG_2, stG_3, Int.toNat_zero, Int.toNat_one, Int.reduceToNat, Nat.zero_add, Int.toNat_natCast, List.length_cons, List.length_nil, Nat.reduceAdd])) (by (simp (disch := omega) only [go_sem, lint, pz , iInts, List.length_append, hs1, hs2, hs3, hs4, hs5, hs6, hs7, hs8, u8C_len, List.length_set, ba_app, ba_size, stG_0, stG_1, stG_2, stG_3, Int.toNat_zero, Int.toNat_one, Int.reduceToNat, Nat.zero_add, Int.toNat_natCast, List.length_cons, List.length_nil, Nat.reduceAdd])) (by (simp (disch := omega) only [go_sem, lint, pz , iInts, List.length_append, hs1, hs2, hs3, hs4, hs5, hs6, hs7, hs8, u8C_len, List.length_set, ba_app, ba_size, stG_0, stG_1, stG_2, stG_3, Int.toNat_zero, Int.toNat_one, Int.reduceToNat, Nat.zero_add, Int.toNat_natCast, List.length_cons, List.length_nil, Nat.reduceAdd])) (fun d => by first | ((simp (disch := omega) only [go_sem, lint, pz , iInts, List.length_append, hs1, hs2, hs3, hs4, hs5, hs6, hs7, hs8, u8C_len, List.length_set, ba_app, ba_size, stG_0, stG_1, stG_2, stG_3, Int.toNat_zero, Int.toNat_one, Int.reduceToNat, Nat.zero_add, Int.toNat_natCast, List.length_cons, List.length_nil, Nat.reduceAdd]); done) | ((simp (disch := omega) only [go_sem, lint, pz , iInts, List.length_append, hs1, hs2, hs3, hs4, hs5, hs6, hs7, hs8, u8C_len, List.length_set, ba_app, ba_size, stG_0, stG_1, stG_2, stG_3, Int.toNat_zero, Int.toNat_one, Int.reduceToNat, Nat.zero_add, Int.toNat_natCast, List.length_cons, List.length_nil, Nat.reduceAdd]); rfl))
    · have hs4 : ((stAt xs k).k == 2) = false := by simpa using hk2
      have hN := hN hk2
      rw [← hN] at hst
      (refine Wk.o ?_; (repeat revert hK K); refine Wce1eb ?_; (repeat intro K hK); refine ⟨?_⟩)
      exact whx_ren [] (k + 1, x ++ tI ++ [32] ++ tL ++ [32] ++ tH ++ [10]) ⟨by omega, hst.symm⟩ (by (first | omega | (dsimp only; omega) | (simp only; omega))) rfl (by decide) (by decide) (by (simp (disch := omega) only [go_sem, lint, pz , iInts, List.length_append, hs1, hs2, hs3, hs4, hs5, hs6, hs7, hs8, u8C_len, List.length_set, ba_app, ba_size, stG_0, stG_1, stG_2, stG_3, Int.toNat_zero, Int.toNat_one, Int.reduceToNat, Nat.zero_add, Int.toNat_natCast, List.length_cons, List.length_nil, Nat.reduceAdd])) (by (simp (disch := omega) only [go_sem, lint, pz , iInts, List.length_append, hs1, hs2, hs3, hs4, hs5, hs6, hs7, hs8, u8C_len, List.length_set, ba_app, ba_size, stG_0, stG_1, stG_2, stG_3, Int.toNat_zero, Int.toNat_one, Int.reduceToNat, Nat.zero_add, Int.toNat_natCast, List.length_cons, List.length_nil, Nat.reduceAdd])) (by (simp (disch := omega) only [go_sem, lint, pz , iInts, List.length_append, hs1, hs2, hs3, hs4, hs5, hs6, hs7, hs8, u8C_len, List.length_set, ba_app, ba_size, stG_0, stG_1, stG_2, stG_3, Int.toNat_zero, Int.toNat_one, Int.reduceToNat, Nat.zero_add, Int.toNat_natCast, List.length_cons, List.length_nil, Nat.reduceAdd])) (fun d => by first | ((simp (disch := omega) only [go_sem, lint, pz , iInts, List.length_append, hs1, hs2, hs3, hs4, hs5, hs6, hs7, hs8, u8C_len, List.length_set, ba_app, ba_size, stG_0, stG_1, stG_2, stG_3, Int.toNat_zero, Int.toNat_one, Int.reduceToNat, Nat.zero_add, Int.toNat_natCast, List.length_cons, List.length_nil, Nat.reduceAdd]); done) | ((simp (disch := omega) only [go_sem, lint, pz , iInts, List.length_append, hs1, hs2, hs3, hs4, hs5, hs6, hs7, hs8, u8C_len, List.length_set, ba_app, ba_size, stG_0, stG_1, stG_2, stG_3, Int.toNat_zero, Int.toNat_one, Int.reduceToNat, Nat.zero_add, Int.toNat_natCast, List.length_cons, List.length_nil, Nat.reduceAdd]); rfl))
  · obtain rfl : k = xs.length := by omega
    rw [List.take_length] at hx0
    have hs2 : decide ((xs.length : Int) < (xs.length : Int)) = false := decide_eq_false (by omega)
    have hs3 : decide ((1000000 : Int) < (x.length : Int)) = false := decide_eq_false (by omega)
    (refine Wk.o ?_; (repeat revert hK K); refine Wce1eb ?_; (repeat intro K hK); refine ⟨?_⟩)
    (simp only [bodyX]; refine ⟨_, by simp only [aresults, aresult, XS.as, Tryd.results15, aload, go_sem, Option.bind_some]; rfl, ?_⟩)
    exact ⟨ids_idB rfl, by rw [hx0], trivial⟩
theorem pf_rpPrint (xs : List Stp) (hx : StLen xs) (hb : ckE xs = 0 → (pfB xs).length ≤ 1000000) : PF Tryd.prog 15 [.iv (iSts xs)] fun r H' => r = .tup [lt (.string (ba (prT xs))), lt (.int .i64 (ckE xs))] ∧ H' = [] := by
  unfold prT
  by_cases he : ckE xs = 0
  · rw [if_pos he, he]
    exact pf_rpPrint1 xs hx (ckE_zero.1 he) (hb he)
  · rw [if_neg he]; exact pf_rpPrintNo xs hx he
end Go.Proofs.YtghdacijcnmhlaaDoor
namespace Go.Proofs.YtghdacijcnmhlaaDoor
theorem setN_keep : ∀ {ds : List Nat} {H : AHeap} {o : Nat}, o ∉ ds → (setN ds H)[o]? = H[o]?
  | [], _, _, _ => rfl
  | d :: ds, H, o, h => by
    show (setN ds (H.set d none))[o]? = _
    rw [setN_keep (fun h2 => h (List.mem_cons_of_mem _ h2)), List.getElem?_set_ne (fun e => h (by rw [e]; exact List.mem_cons_self))]
theorem Inv.recell2 {G : Gh} {H : AHeap} {w : World} (h : Inv G H w) {o : Nat} {x : AObj} (ho : H[o]? = some (some x)) (hne : x.cells ≠ []) (xs : List AV) (hl : xs.length = x.cells.length) (h1 : xs.all AV.one = true) (hx : ∀ cs : Array Value, w.heap[(G.mu o).1]? = some (.cells cs x.t (0, 0)) → RL H.length G xs ((cs.toList.drop (G.mu o).2).take x.cells.length)) : Inv G (H.set o (some ⟨x.t, xs⟩)) w := by
  have holt : o < H.length := (List.getElem?_eq_some_iff.1 ho).1
  have hlen : (H.set o (some ⟨x.t, xs⟩)).length = H.length := List.length_set
  have back : ∀ q z, (H.set o (some ⟨x.t, xs⟩))[q]? = some (some z) → ∃ z', H[q]? = some (some z') := fun q z hq => by
    by_cases hq2 : q = o
    · subst hq2; exact ⟨x, ho⟩
    · rw [List.getElem?_set_ne (Ne.symm hq2)] at hq; exact ⟨z, hq⟩
  refine ⟨h.os, h.tape, h.output, h.fz, h.kp, fun q hq => by rw [hlen]; exact h.dom q hq, fun q z e => by obtain ⟨z', hz'⟩ := back q z e; exact h.live q z' hz', fun o' y e => ?_, fun o1 o2 y y' e e' hne' => by
    obtain ⟨z, hz⟩ := back o1 y e
    obtain ⟨z', hz'⟩ := back o2 y' e'
    exact h.inj o1 o2 z z' hz hz' hne'⟩
  rw [hlen]
  by_cases hoo : o' = o
  · subst hoo
    rw [List.getElem?_set_self holt] at e
    simp only [Option.some.injEq] at e; subst e
    obtain ⟨k0, cs, k1, k2, k3, k4, k5, k6⟩ := h.real ho hne
    exact .inr ⟨k0, cs, k1, k2, by rw [hl]; exact hx _ k1, h1, k5, k6⟩
  · rw [List.getElem?_set_ne (Ne.symm hoo)] at e
    exact h.obj o' y e
theorem Leads.frzAt {m : Nat} {s : AS} {S : AS → Prop} (ds : List Nat) (o j : Nat) (xo : AObj) (x y : AV) (ho : s.H[o]? = some (some xo)) (hod : o ∉ ds) (hj : xo.cells[j]? = some x) (hf : FrzV (onlyH ds s.H) x y) (hy : AV.one y = true) (h : S ⟨s.fr, (setN ds s.H).set o (some ⟨xo.t, xo.cells.set j y⟩)⟩) : Leads m s S := fun G a w hm hr => by
  obtain ⟨h1, h2, hi⟩ := hr
  have hjl := (List.getElem?_eq_some_iff.1 hj).1
  have hne : xo.cells ≠ [] := fun e => by rw [e] at hjl; simp at hjl
  obtain ⟨fz, k1, k2, k3, k4⟩ := hi.freeze ds
  have hH1 : (setN ds s.H)[o]? = some (some xo) := by rw [setN_keep hod]; exact ho
  obtain ⟨c0, cs, c1, c2, c3, c4, c5, c6⟩ := (hi.obj o xo ho).resolve_left fun e => hne e.1
  have hle : Gh.le s.H.length G { G with fz := fz, bs := baseOk_up k1 G.bs } := ⟨fun _ _ => rfl, fun _ _ => rfl, fun _ h => h, fun _ _ h => h, k1, fun _ _ e => e, k2, rfl, rfl, rfl⟩
  refine ⟨{ G with fz := fz, bs := baseOk_up k1 G.bs }, _, hle.leb hm, by show m ≤ ((setN ds s.H).set _ _).length; rw [List.length_set, setN_len]; exact hm, ⟨h1, ?_, ?_⟩, h⟩
  · refine ⟨h2.1, fun i z v e e' => ?_⟩
    show RA ((setN ds s.H).set _ _).length _ _ _
    rw [List.length_set, setN_len]
    exact k4 z z v (.same z) (h2.2 i z v e e')
  · refine k3.recell2 hH1 hne (xo.cells.set j y) (by simp) ?_ fun cs' e => ?_
    · rw [List.all_eq_true] at c4 ⊢
      intro z hz
      rcases List.mem_or_eq_of_mem_set hz with h5 | h5
      · exact c4 z h5
      · subst h5; exact hy
    · have e2 : w.heap[(G.mu o).1]? = some (.cells cs' xo.t (0, 0)) := e
      rw [c1] at e2
      simp only [Option.some.injEq, Obj.cells.injEq] at e2
      obtain ⟨rfl, _⟩ := e2
      refine ⟨by rw [List.length_set]; exact c3.1, fun i z v e3 e4 => ?_⟩
      show RA (setN ds s.H).length _ _ _
      rw [setN_len]
      by_cases hij : j = i
      · subst hij
        rw [List.getElem?_set_self hjl] at e3
        simp only [Option.some.injEq] at e3
        subst e3
        exact k4 x _ v hf (c3.2 j x v hj e4)
      · rw [List.getElem?_set_ne hij] at e3
        exact k4 z z v (.same z) (c3.2 i z v e3 e4)
theorem Leads.exch {m : Nat} {s : AS} {S : AS → Prop} (i : Nat) (x y : AV) (hi : s.fr[i]? = some x) (hxy : ∀ n G v, RA n G x v → RA n G y v) (h : S ⟨s.fr.set i y, s.H⟩) : Leads m s S := fun G a w hm hr => by
  obtain ⟨h1, h2, h3⟩ := hr
  refine ⟨G, (⟨s.fr.set i y, s.H⟩ : AS), Gh.leb.refl _ _, hm, ⟨h1, ⟨by show (s.fr.set i y).length = _; rw [List.length_set]; exact h2.1, fun k z v e e' => ?_⟩, h3⟩, h⟩
  have e : (s.fr.set i y)[k]? = some z := e
  by_cases hik : i = k
  · subst hik
    rw [List.getElem?_set_self (List.getElem?_eq_some_iff.1 hi).1] at e
    simp only [Option.some.injEq] at e
    subst e
    exact hxy _ _ _ (h2.2 i x v hi e')
  · rw [List.getElem?_set_ne hik] at e
    exact h2.2 k z v e e'
variable {P : Program} {m : Nat} {Q : Exit → XS → Prop}
theorem XRes_exch {l : List Oper} {fr : List AV} {H : AHeap} {M : MS} (i : Nat) (x y : AV) (hi : fr[i]? = some x) (hxy : ∀ n G v, RA n G x v → RA n G y v) (h : XRes P m Q (l, ⟨fr.set i y, H, M⟩)) : XRes P m Q (l, ⟨fr, H, M⟩) :=
  XRes_lead (S := fun s1 => s1 = ⟨fr.set i y, H, M⟩) (.of (.exch i x y hi hxy rfl)) fun s' e _ => by rw [e]; exact h
theorem AX_frzAt {fr : List AV} {H : AHeap} {M : MS} {c : Code} (ds : List Nat) (o j : Nat) (xo : AObj) (x y : AV) (ho : H[o]? = some (some xo)) (hod : o ∉ ds) (hj : xo.cells[j]? = some x) (hf : FrzV (onlyH ds H) x y) (hy : AV.one y = true) (h : AX P m c Q ⟨fr, (setN ds H).set o (some ⟨xo.t, xo.cells.set j y⟩), M⟩) : AX P m c Q ⟨fr, H, M⟩ :=
  AX_lead (S := fun s1 => s1 = ⟨fr, (setN ds H).set o (some ⟨xo.t, xo.cells.set j y⟩), M⟩) (.of (.frzAt ds o j xo x y ho hod hj hf hy rfl)) fun s' e => by rw [e]; exact h
end Go.Proofs.YtghdacijcnmhlaaDoor
namespace Go.Proofs.YtghdacijcnmhlaaDoor
open Go.RowKit Go.Lib
set_option linter.unusedVariables false
set_option linter.unusedSimpArgs false
def nn (x : Int) : Bool := decide (0 ≤ x)
def rowsOf : List Int → List (List Int)
  | [] => []
  | n :: l => (n :: l.takeWhile nn) :: rowsOf (l.dropWhile nn)
termination_by l => l.length
decreasing_by have := (List.dropWhile_sublist nn (l := l)).length_le; simp; omega
def spA (h : List Int) : List Int := h.takeWhile nn
def spR (h : List Int) : List (List Int) := rowsOf (h.dropWhile nn)
theorem rowsOf_nil : rowsOf [] = [] := by rw [rowsOf]
theorem rowsOf_cons (n : Int) (l : List Int) : rowsOf (n :: l) = (n :: l.takeWhile nn) :: rowsOf (l.dropWhile nn) := by rw [rowsOf]
theorem dropD10 {h : List Int} {i : Nat} (hi : i < h.length) : h.drop i = h.getD i 0 :: h.drop (i + 1) := by
  rw [List.drop_eq_getElem_cons hi, List.getD_eq_getElem?_getD, List.getElem?_eq_getElem hi]; rfl
def SpI (h : List Int) (i : Nat) (a : List Int) (R : List (List Int)) (c : List Int) : Bool → Prop
  | false => R = [] ∧ c = [] ∧ spA h = a ++ (h.drop i).takeWhile nn ∧ spR h = rowsOf ((h.drop i).dropWhile nn)
  | true => spA h = a ∧ spR h = R ++ (c ++ (h.drop i).takeWhile nn) :: rowsOf ((h.drop i).dropWhile nn)
theorem SpI.negF {h : List Int} {i : Nat} {a : List Int} {R : List (List Int)} {c : List Int} (hi : i < h.length) (hn : h.getD i 0 < 0) (hI : SpI h i a R c false) : SpI h (i + 1) a [] [h.getD i 0] true := by
  obtain ⟨h1, h2, h3, h4⟩ := hI
  have hb : nn (h.getD i 0) = false := decide_eq_false (by omega)
  rw [dropD10 hi, List.takeWhile_cons, if_neg (by rw [hb]; decide), List.append_nil] at h3
  rw [dropD10 hi, List.dropWhile_cons, if_neg (by rw [hb]; decide), rowsOf_cons] at h4
  exact ⟨h3, by rw [h4]; rfl⟩
theorem SpI.negT {h : List Int} {i : Nat} {a : List Int} {R : List (List Int)} {c : List Int} (hi : i < h.length) (hn : h.getD i 0 < 0) (hI : SpI h i a R c true) : SpI h (i + 1) a (R ++ [c]) [h.getD i 0] true := by
  obtain ⟨h3, h4⟩ := hI
  have hb : nn (h.getD i 0) = false := decide_eq_false (by omega)
  rw [dropD10 hi, List.takeWhile_cons, if_neg (by rw [hb]; decide), List.append_nil, List.dropWhile_cons, if_neg (by rw [hb]; decide), rowsOf_cons] at h4
  exact ⟨h3, by rw [h4]; simp⟩
theorem SpI.posF {h : List Int} {i : Nat} {a : List Int} {R : List (List Int)} {c : List Int} (hi : i < h.length) (hn : ¬ h.getD i 0 < 0) (hI : SpI h i a R c false) : SpI h (i + 1) (a ++ [h.getD i 0]) R c false := by
  obtain ⟨h1, h2, h3, h4⟩ := hI
  have hb : nn (h.getD i 0) = true := decide_eq_true (by omega)
  rw [dropD10 hi, List.takeWhile_cons, if_pos hb] at h3
  rw [dropD10 hi, List.dropWhile_cons, if_pos hb] at h4
  exact ⟨h1, h2, by rw [h3]; simp, h4⟩
theorem SpI.posT {h : List Int} {i : Nat} {a : List Int} {R : List (List Int)} {c : List Int} (hi : i < h.length) (hn : ¬ h.getD i 0 < 0) (hI : SpI h i a R c true) : SpI h (i + 1) a R (c ++ [h.getD i 0]) true := by
  obtain ⟨h3, h4⟩ := hI
  have hb : nn (h.getD i 0) = true := decide_eq_true (by omega)
  rw [dropD10 hi, List.takeWhile_cons, if_pos hb, List.dropWhile_cons, if_pos hb] at h4
  exact ⟨h3, by rw [h4]; simp⟩
def gC (R : List (List Int)) (c : List Int) : Bool → List AV
  | false => []
  | true => R.map rwI ++ [.osl 2 0 c.length 1]
def gN (R : List (List Int)) : Bool → Nat
  | false => 0
  | true => R.length + 1
theorem at_last10 (R : List (List Int)) (x : AV) : (R.map rwI ++ [x])[R.length]? = some x := by rw [List.getElem?_append_right (by simp)]; simp
theorem set_last10 (R : List (List Int)) (x y : AV) : (R.map rwI ++ [x]).set R.length y = R.map rwI ++ [y] := by rw [List.set_append_right _ _ (by simp)]; simp
theorem snapC_last {H : AHeap} {o p : Nat} {t t2 : TypeId} {R : List (List Int)} {c : List Int} (h1 : H[o]? = some (some ⟨t, R.map rwI ++ [.osl p 0 c.length 1]⟩)) (h2 : H[p]? = some (some ⟨t2, c.map lint⟩)) : SnapC H (.osl o 0 (R.length + 1) 1) (iRows (R ++ [c])) := by
  have hl : (R ++ [c]).length = R.length + 1 := by simp
  unfold iRows
  rw [hl]
  refine .osl o 0 (R.length + 1) 1 _ _ (fun j => if j < R.length then rwI (R.getD j []) else .osl p 0 c.length 1) (by decide) h1 (fun j hj => ?_) fun j hj => ?_
  · rw [Nat.zero_add]
    by_cases hjr : j < R.length
    · rw [if_pos hjr, List.getElem?_append_left (by simpa using hjr)]; exact rwI_at hjr
    · rw [if_neg hjr, show j = R.length by omega]; exact at_last10 R _
  · by_cases hjr : j < R.length
    · rw [if_pos hjr, show (R ++ [c]).getD j [] = R.getD j [] by simp [List.getD, List.getElem?_append_left hjr]]
      exact .iv _
    · rw [if_neg hjr, show (R ++ [c]).getD j [] = c by rw [show j = R.length by omega]; simp [List.getD]]
      exact SnapC.lits (fun j => .int .i64 (c.getD j 0)) h2 fun j hj => by rw [Nat.zero_add]; exact lint_at hj
theorem snap_pr {H : AHeap} {x y x2 y2 : AV} (h1 : Snap H x x2) (h2 : Snap H y y2) : Snap H (.tup [x, y]) (.tup [x2, y2]) :=
  .tup _ _ rfl fun i u v hu hv => by
    rcases i with _ | _ | i
    · simp at hu hv; subst hu hv; exact h1
    · simp at hu hv; subst hu hv; exact h2
    · simp at hu
attribute [go_sem] rnL_app idL_app
theorem Wb0bda {A B : Prop} (h9 : B) (w : B → A := by (intro h9; (repeat intro K hK); refine ⟨?_⟩; (repeat (first | (first | (with_reducible first | refine AX_block ?_ | refine AX_skip ?_ | refine AX_exit ?_ | refine AX_ret ?_ | refine AX_ift ?_ | refine AX_iff ?_ | refine AX_seq_k (fun K hK => ?_) | refine ContX.use (by assumption) ?_) | simp only [thenX, inBlockX, if_true, if_false, reduceCtorEq]) | (first | ((with_reducible refine XOP tyOK ?_); simp (disch := omega) only [go_sem , hs1, hs2, hs3, hs4, hs5, hs6, hs7, hs8, Int.toNat_zero, Int.toNat_one, Int.reduceToNat, Nat.zero_add, Int.toNat_natCast, List.length_map, Nat.reduceEqDiff, List.length_append, List.length_singleton, List.length_cons, List.length_nil, gC, gN, at_last10, set_last10, List.map_nil, List.nil_append]; (with_reducible refine XRes_id ?_)) | (with_reducible refine XSK ?_)) | ((with_reducible refine XRes_nil ?_); refine hK _ ?_; clear hK K) | ((with_reducible refine AX_reg0 fun K hK => ?_); simp only [go_sem]))); refine Wk.o ?_; (repeat revert hK K); exact h9)) : A := w h9
set_option maxRecDepth 100000 in
set_option maxHeartbeats 4000000 in
theorem pf_prSplit (h : List Int) (hl : h.length ≤ 1000000) : PF Tryd.prog 16 [.iv (iInts h)] fun r H' => r = .tup [.iv (iInts (spA h)), .iv (iRows (spR h))] ∧ H' = [] := by
  refine SF.frozen ?_
  have hs1 := trivial; have hs2 := trivial; have hs3 := trivial; have hs4 := trivial; have hs5 := trivial; have hs6 := trivial; have hs7 := trivial; have hs8 := trivial
  unfold iInts
  (refine SF_of_bodyX (aload tt) (aload_ok tyOK) Tryd.func16 rfl (by kernel_rfl) ?_; simp only [Tryd.ntmps16, List.length_cons, List.length_nil, Nat.reduceAdd, Nat.reduceSub, List.replicate_succ, List.replicate_zero, List.cons_append, List.nil_append])
  (refine Wk.o ?_; (repeat revert hK K); refine Wb0bda ?_; (repeat intro K hK); refine ⟨?_⟩)
  refine AX_nil 2 3 1 rfl ?_
  refine AX_nil 3 31 1 rfl ?_
  refine AX_lead (S := fun s1 => s1 = ⟨_, [some ⟨3, []⟩, some ⟨31, []⟩, some ⟨3, []⟩], _⟩) (.of (.more 3 rfl)) fun s' e => ?_
  subst e
  simp only [List.set_cons_succ, List.set_cons_zero, List.length_cons, List.length_nil, List.nil_append, Nat.zero_add, Nat.reduceAdd]
  have hinit : ([] : List Int).map lint = [] := rfl
  (refine AX_wh (σ := Nat × List Int × List (List Int) × List Int × Bool) [10, 11, 12, 5, 27, 28, 26, 29, 30, 31, 32, 33, 35, 36, 37, 34, 38, 39, 40, 41, 13, 14, 15, 6, 16, 17, 18, 19, 20, 21, 22, 23, 24, 25, 42] (fun (i, a, R, c, b) => [(9, lint i), (2, .osl 0 0 a.length 1), (3, .osl 1 0 (gN R b) 1)]) (fun (i, a, R, c, b) => [some ⟨3, a.map lint⟩, some ⟨31, gC R c b⟩, some ⟨3, c.map lint⟩]) (fun (i, a, R, c, b) => []) (fun (i, a, R, c, b) => i ≤ h.length ∧ SpI h i a R c b ∧ a.length ≤ i ∧ R.length ≤ i ∧ c.length ≤ i) (fun (i, a, R, c, b) => h.length - i) (0, [], [], [], false) (fun d => by first | ((simp only [deadS, updS, List.set_cons_succ, List.set_cons_zero, lint, List.length_nil, List.length_cons]); done) | ((simp only [deadS, updS, List.set_cons_succ, List.set_cons_zero, lint, List.length_nil, List.length_cons]); rfl) | rfl) (by first | (with_reducible rfl) | (simp only [hinit]; done) | rfl) (by first | (with_reducible rfl) | rfl) (by first | exact ⟨Nat.zero_le _, ⟨rfl, rfl, rfl, rfl⟩, by simp, by simp, by simp⟩) ?_; rintro ⟨i, a, R, c, b⟩ d fr hfr ⟨hi, hI, hb1, hb2, hb3⟩; simp only [updS, deadS, List.set_cons_succ, List.set_cons_zero, lint] at hfr; subst hfr; (try dsimp only))
  by_cases hlt : i < h.length
  · have hs1 : decide ((i : Int) < (h.length : Int)) = true := decide_eq_true (by omega)
    by_cases hn : h.getD i 0 < 0
    · have hs2 : decide (h.getD i 0 < 0) = true := decide_eq_true hn
      cases b with
      | false =>
        have hI2 := hI.negF hlt hn
        obtain ⟨rfl, rfl, _, _⟩ := hI
        (refine Wk.o ?_; (repeat revert hK K); refine Wb0bda ?_; (repeat intro K hK); refine ⟨?_⟩)
        exact whx_ren [0, 5, 3] (i + 1, a, [], [h.getD i 0], true) ⟨by (dsimp only; omega), hI2, by (dsimp only; omega), by simp, by simp⟩ (by (first | omega | (dsimp only; omega) | (simp only; omega))) rfl (by decide) (by decide) (by (simp (disch := omega) only [go_sem, lint , hs1, hs2, hs3, hs4, hs5, hs6, hs7, hs8, Int.toNat_zero, Int.toNat_one, Int.reduceToNat, Nat.zero_add, Int.toNat_natCast, List.length_map, Nat.reduceEqDiff, List.length_append, List.length_singleton, List.length_cons, List.length_nil, gC, gN, at_last10, set_last10, List.map_nil, List.nil_append])) (by (simp (disch := omega) only [go_sem, lint , hs1, hs2, hs3, hs4, hs5, hs6, hs7, hs8, Int.toNat_zero, Int.toNat_one, Int.reduceToNat, Nat.zero_add, Int.toNat_natCast, List.length_map, Nat.reduceEqDiff, List.length_append, List.length_singleton, List.length_cons, List.length_nil, gC, gN, at_last10, set_last10, List.map_nil, List.nil_append])) (by (simp (disch := omega) only [go_sem, lint , hs1, hs2, hs3, hs4, hs5, hs6, hs7, hs8, Int.toNat_zero, Int.toNat_one, Int.reduceToNat, Nat.zero_add, Int.toNat_natCast, List.length_map, Nat.reduceEqDiff, List.length_append, List.length_singleton, List.length_cons, List.length_nil, gC, gN, at_last10, set_last10, List.map_nil, List.nil_append])) (fun d => by first | ((simp (disch := omega) only [go_sem, lint , hs1, hs2, hs3, hs4, hs5, hs6, hs7, hs8, Int.toNat_zero, Int.toNat_one, Int.reduceToNat, Nat.zero_add, Int.toNat_natCast, List.length_map, Nat.reduceEqDiff, List.length_append, List.length_singleton, List.length_cons, List.length_nil, gC, gN, at_last10, set_last10, List.map_nil, List.nil_append]); done) | ((simp (disch := omega) only [go_sem, lint , hs1, hs2, hs3, hs4, hs5, hs6, hs7, hs8, Int.toNat_zero, Int.toNat_one, Int.reduceToNat, Nat.zero_add, Int.toNat_natCast, List.length_map, Nat.reduceEqDiff, List.length_append, List.length_singleton, List.length_cons, List.length_nil, gC, gN, at_last10, set_last10, List.map_nil, List.nil_append]); rfl))
      | true =>
        have hI2 := hI.negT hlt hn
        have hs3 := rwI_snoc R c
        simp only [gC, gN]
        refine AX_frzAt [2] 1 R.length _ _ (.iv (iInts c)) rfl (by decide) (at_last10 R _) (frz_ints (only_mk (by decide) rfl) rfl) rfl ?_
        simp only [setN, List.set_cons_succ, List.set_cons_zero, set_last10, rwI_snoc]
        (refine Wk.o ?_; (repeat revert hK K); refine Wb0bda ?_; (repeat intro K hK); refine ⟨?_⟩)
        exact whx_ren [0, 5, 3] (i + 1, a, R ++ [c], [h.getD i 0], true) ⟨by (dsimp only; omega), hI2, by (dsimp only; omega), by (dsimp only; rw [List.length_append, List.length_singleton]; omega), by simp⟩ (by (first | omega | (dsimp only; omega) | (simp only; omega))) rfl (by decide) (by decide) (by (simp (disch := omega) only [go_sem, lint , hs1, hs2, hs3, hs4, hs5, hs6, hs7, hs8, Int.toNat_zero, Int.toNat_one, Int.reduceToNat, Nat.zero_add, Int.toNat_natCast, List.length_map, Nat.reduceEqDiff, List.length_append, List.length_singleton, List.length_cons, List.length_nil, gC, gN, at_last10, set_last10, List.map_nil, List.nil_append])) (by (simp (disch := omega) only [go_sem, lint , hs1, hs2, hs3, hs4, hs5, hs6, hs7, hs8, Int.toNat_zero, Int.toNat_one, Int.reduceToNat, Nat.zero_add, Int.toNat_natCast, List.length_map, Nat.reduceEqDiff, List.length_append, List.length_singleton, List.length_cons, List.length_nil, gC, gN, at_last10, set_last10, List.map_nil, List.nil_append])) (by (simp (disch := omega) only [go_sem, lint , hs1, hs2, hs3, hs4, hs5, hs6, hs7, hs8, Int.toNat_zero, Int.toNat_one, Int.reduceToNat, Nat.zero_add, Int.toNat_natCast, List.length_map, Nat.reduceEqDiff, List.length_append, List.length_singleton, List.length_cons, List.length_nil, gC, gN, at_last10, set_last10, List.map_nil, List.nil_append])) (fun d => by first | ((simp (disch := omega) only [go_sem, lint , hs1, hs2, hs3, hs4, hs5, hs6, hs7, hs8, Int.toNat_zero, Int.toNat_one, Int.reduceToNat, Nat.zero_add, Int.toNat_natCast, List.length_map, Nat.reduceEqDiff, List.length_append, List.length_singleton, List.length_cons, List.length_nil, gC, gN, at_last10, set_last10, List.map_nil, List.nil_append]); done) | ((simp (disch := omega) only [go_sem, lint , hs1, hs2, hs3, hs4, hs5, hs6, hs7, hs8, Int.toNat_zero, Int.toNat_one, Int.reduceToNat, Nat.zero_add, Int.toNat_natCast, List.length_map, Nat.reduceEqDiff, List.length_append, List.length_singleton, List.length_cons, List.length_nil, gC, gN, at_last10, set_last10, List.map_nil, List.nil_append]); rfl))
    · have hs2 : decide (h.getD i 0 < 0) = false := decide_eq_false hn
      cases b with
      | false =>
        have hI2 := hI.posF hlt hn
        (refine Wk.o ?_; (repeat revert hK K); refine Wb0bda ?_; (repeat intro K hK); refine ⟨?_⟩)
        exact whx_ren [4, 1, 2] (i + 1, a ++ [h.getD i 0], R, c, false) ⟨by (dsimp only; omega), hI2, by (dsimp only; rw [List.length_append, List.length_singleton]; omega), by (dsimp only; omega), by (dsimp only; omega)⟩ (by (first | omega | (dsimp only; omega) | (simp only; omega))) rfl (by decide) (by decide) (by (simp (disch := omega) only [go_sem, lint , hs1, hs2, hs3, hs4, hs5, hs6, hs7, hs8, Int.toNat_zero, Int.toNat_one, Int.reduceToNat, Nat.zero_add, Int.toNat_natCast, List.length_map, Nat.reduceEqDiff, List.length_append, List.length_singleton, List.length_cons, List.length_nil, gC, gN, at_last10, set_last10, List.map_nil, List.nil_append])) (by (simp (disch := omega) only [go_sem, lint , hs1, hs2, hs3, hs4, hs5, hs6, hs7, hs8, Int.toNat_zero, Int.toNat_one, Int.reduceToNat, Nat.zero_add, Int.toNat_natCast, List.length_map, Nat.reduceEqDiff, List.length_append, List.length_singleton, List.length_cons, List.length_nil, gC, gN, at_last10, set_last10, List.map_nil, List.nil_append])) (by (simp (disch := omega) only [go_sem, lint , hs1, hs2, hs3, hs4, hs5, hs6, hs7, hs8, Int.toNat_zero, Int.toNat_one, Int.reduceToNat, Nat.zero_add, Int.toNat_natCast, List.length_map, Nat.reduceEqDiff, List.length_append, List.length_singleton, List.length_cons, List.length_nil, gC, gN, at_last10, set_last10, List.map_nil, List.nil_append])) (fun d => by first | ((simp (disch := omega) only [go_sem, lint , hs1, hs2, hs3, hs4, hs5, hs6, hs7, hs8, Int.toNat_zero, Int.toNat_one, Int.reduceToNat, Nat.zero_add, Int.toNat_natCast, List.length_map, Nat.reduceEqDiff, List.length_append, List.length_singleton, List.length_cons, List.length_nil, gC, gN, at_last10, set_last10, List.map_nil, List.nil_append]); done) | ((simp (disch := omega) only [go_sem, lint , hs1, hs2, hs3, hs4, hs5, hs6, hs7, hs8, Int.toNat_zero, Int.toNat_one, Int.reduceToNat, Nat.zero_add, Int.toNat_natCast, List.length_map, Nat.reduceEqDiff, List.length_append, List.length_singleton, List.length_cons, List.length_nil, gC, gN, at_last10, set_last10, List.map_nil, List.nil_append]); rfl))
      | true =>
        have hI2 := hI.posT hlt hn
        have hs3 : (((R.length : Int) + 1) == 0) = false := by rw [beq_eq_false_iff_ne]; omega
        have hs4 : (((R.length + 1 : Nat) : Int) - 1) = (R.length : Int) := by omega
        (refine Wk.o ?_; (repeat revert hK K); refine Wb0bda ?_; (repeat intro K hK); refine ⟨?_⟩)
        exact whx_ren [0, 1, 4] (i + 1, a, R, c ++ [h.getD i 0], true) ⟨by (dsimp only; omega), hI2, by (dsimp only; omega), by (dsimp only; omega), by (dsimp only; rw [List.length_append, List.length_singleton]; omega)⟩ (by (first | omega | (dsimp only; omega) | (simp only; omega))) rfl (by decide) (by decide) (by (simp (disch := omega) only [go_sem, lint , hs1, hs2, hs3, hs4, hs5, hs6, hs7, hs8, Int.toNat_zero, Int.toNat_one, Int.reduceToNat, Nat.zero_add, Int.toNat_natCast, List.length_map, Nat.reduceEqDiff, List.length_append, List.length_singleton, List.length_cons, List.length_nil, gC, gN, at_last10, set_last10, List.map_nil, List.nil_append])) (by (simp (disch := omega) only [go_sem, lint , hs1, hs2, hs3, hs4, hs5, hs6, hs7, hs8, Int.toNat_zero, Int.toNat_one, Int.reduceToNat, Nat.zero_add, Int.toNat_natCast, List.length_map, Nat.reduceEqDiff, List.length_append, List.length_singleton, List.length_cons, List.length_nil, gC, gN, at_last10, set_last10, List.map_nil, List.nil_append])) (by (simp (disch := omega) only [go_sem, lint , hs1, hs2, hs3, hs4, hs5, hs6, hs7, hs8, Int.toNat_zero, Int.toNat_one, Int.reduceToNat, Nat.zero_add, Int.toNat_natCast, List.length_map, Nat.reduceEqDiff, List.length_append, List.length_singleton, List.length_cons, List.length_nil, gC, gN, at_last10, set_last10, List.map_nil, List.nil_append])) (fun d => by first | ((simp (disch := omega) only [go_sem, lint , hs1, hs2, hs3, hs4, hs5, hs6, hs7, hs8, Int.toNat_zero, Int.toNat_one, Int.reduceToNat, Nat.zero_add, Int.toNat_natCast, List.length_map, Nat.reduceEqDiff, List.length_append, List.length_singleton, List.length_cons, List.length_nil, gC, gN, at_last10, set_last10, List.map_nil, List.nil_append]); done) | ((simp (disch := omega) only [go_sem, lint , hs1, hs2, hs3, hs4, hs5, hs6, hs7, hs8, Int.toNat_zero, Int.toNat_one, Int.reduceToNat, Nat.zero_add, Int.toNat_natCast, List.length_map, Nat.reduceEqDiff, List.length_append, List.length_singleton, List.length_cons, List.length_nil, gC, gN, at_last10, set_last10, List.map_nil, List.nil_append]); rfl))
  · obtain rfl : i = h.length := by omega
    have hs1 : decide ((h.length : Int) < (h.length : Int)) = false := decide_eq_false (by omega)
    cases b with
    | false =>
      obtain ⟨rfl, rfl, h3, h4⟩ := hI
      rw [List.drop_length] at h3 h4
      (refine Wk.o ?_; (repeat revert hK K); refine Wb0bda ?_; (repeat intro K hK); refine ⟨?_⟩)
      (simp only [bodyX]; refine ⟨_, by simp only [aresults, aresult, XS.as, Tryd.results16, aload, go_sem, Option.bind_some]; rfl, ?_⟩)
      exact ⟨_, snap_pr (snap_i (xs := a) rfl rfl) (.iv _ _ (snapC_rwI (R := []) rfl)), by
        rw [h3, h4, List.takeWhile_nil, List.dropWhile_nil, rowsOf_nil]
        simp only [List.append_nil]
        rfl, trivial⟩
    | true =>
      obtain ⟨h3, h4⟩ := hI
      rw [List.drop_length] at h4
      (refine Wk.o ?_; (repeat revert hK K); refine Wb0bda ?_; (repeat intro K hK); refine ⟨?_⟩)
      (simp only [bodyX]; refine ⟨_, by simp only [aresults, aresult, XS.as, Tryd.results16, aload, go_sem, Option.bind_some]; rfl, ?_⟩)
      exact ⟨_, snap_pr (snap_i (xs := a) rfl rfl) (.iv _ _ (snapC_last (R := R) (c := c) rfl rfl)), by
        rw [h3, h4, List.takeWhile_nil, List.dropWhile_nil, rowsOf_nil]
        simp only [List.append_nil]
        rfl, trivial⟩
end Go.Proofs.YtghdacijcnmhlaaDoor
namespace Go.Proofs.YtghdacijcnmhlaaDoor
open Go.RowKit Go.Lib
set_option linter.unusedVariables false
set_option linter.unusedSimpArgs false
theorem exch_cut {h : List Int} {k j : Nat} (hj : j ≤ h.length) (hk : k ≤ j) {n : Nat} {G : Gh} {v : Value} (hr : RA n G (.iv (.sl (fun q => .lit (.int .i64 (h.getD (k + q) 0))) (j - k) 1)) v) : RA n G (.iv (iInts ((h.drop k).take (j - k)))) v := by
  have hl : ((h.drop k).take (j - k)).length = j - k := by rw [List.length_take, List.length_drop]; omega
  unfold iInts
  rw [hl]
  refine RA.congr hr fun q hq => ?_
  rw [List.getD_eq_getElem?_getD, List.getD_eq_getElem?_getD, List.getElem?_take_of_lt (by omega), List.getElem?_drop]
theorem exch_cut0 {h : List Int} {j : Nat} (hj : j ≤ h.length) {n : Nat} {G : Gh} {v : Value} (hr : RA n G (.iv (.sl (fun q => .lit (.int .i64 (h.getD q 0))) j 1)) v) : RA n G (.iv (iInts (h.take j))) v := by
  have hl : (h.take j).length = j := by rw [List.length_take]; omega
  unfold iInts
  rw [hl]
  refine RA.congr hr fun q hq => ?_
  rw [List.getD_eq_getElem?_getD, List.getD_eq_getElem?_getD, List.getElem?_take_of_lt (by omega)]
theorem tw_at {h : List Int} {i : Nat} (hi : i < h.length) (hn : nn (h.getD i 0) = true) : (h.drop i).takeWhile nn = h.getD i 0 :: (h.drop (i + 1)).takeWhile nn ∧ (h.drop i).dropWhile nn = (h.drop (i + 1)).dropWhile nn := by
  rw [dropD10 hi, List.takeWhile_cons, if_pos hn, List.dropWhile_cons, if_pos hn]; exact ⟨rfl, rfl⟩
theorem tw_end {h : List Int} {i : Nat} (he : i = h.length ∨ nn (h.getD i 0) = false) (hi : i ≤ h.length) : (h.drop i).takeWhile nn = [] ∧ (h.drop i).dropWhile nn = h.drop i := by
  rcases Nat.lt_or_ge i h.length with h1 | h1
  · have h2 : nn (h.getD i 0) = false := he.resolve_left (by omega)
    rw [dropD10 h1, List.takeWhile_cons, if_neg (by rw [h2]; decide), List.dropWhile_cons, if_neg (by rw [h2]; decide)]; exact ⟨rfl, rfl⟩
  · rw [List.drop_of_length_le h1]; exact ⟨rfl, rfl⟩
theorem take_snocD {h : List Int} {k j : Nat} (hj : j < h.length) (hk : k ≤ j) : (h.drop k).take (j + 1 - k) = (h.drop k).take (j - k) ++ [h.getD j 0] := by
  rw [show j + 1 - k = j - k + 1 by omega, List.take_add_one, List.getElem?_drop, show k + (j - k) = j by omega, List.getElem?_eq_getElem hj, List.getD_eq_getElem?_getD, List.getElem?_eq_getElem hj]; rfl
theorem W9851a {A B : Prop} (h9 : B) (w : B → A := by (intro h9; (repeat intro K hK); refine ⟨?_⟩; (repeat (first | (first | (with_reducible first | refine AX_block ?_ | refine AX_skip ?_ | refine AX_exit ?_ | refine AX_ret ?_ | refine AX_ift ?_ | refine AX_iff ?_ | refine AX_seq_k (fun K hK => ?_) | refine ContX.use (by assumption) ?_) | simp only [thenX, inBlockX, if_true, if_false, reduceCtorEq]) | (first | ((with_reducible refine XOP tyOK ?_); simp (disch := omega) only [go_sem , iInts, hs1, hs2, hs3, hs4, hs5, hs6, hs7, hs8, Int.toNat_zero, Int.toNat_one, Int.reduceToNat, Nat.zero_add, Int.toNat_natCast, List.length_map, Nat.reduceEqDiff, List.length_append, List.length_singleton, List.length_cons, List.length_nil, List.map_nil, List.nil_append]; (with_reducible refine XRes_id ?_)) | (with_reducible refine XSK ?_)) | ((with_reducible refine XRes_nil ?_); refine hK _ ?_; clear hK K) | ((with_reducible refine AX_reg0 fun K hK => ?_); simp only [go_sem]))); refine Wk.o ?_; (repeat revert hK K); exact h9)) : A := w h9
set_option maxRecDepth 100000 in
set_option maxHeartbeats 4000000 in
theorem pf_rpSplit (h : List Int) (hl : h.length ≤ 1000000) : PF Tryd.prog 17 [.iv (iInts h)] fun r H' => r = .tup [.iv (iInts (spA h)), .iv (iRows (spR h))] ∧ H' = [] := by
  refine SF.frozen ?_
  have hs1 := trivial; have hs2 := trivial; have hs3 := trivial; have hs4 := trivial; have hs5 := trivial; have hs6 := trivial; have hs7 := trivial; have hs8 := trivial
  unfold iInts
  (refine SF_of_bodyX (aload tt) (aload_ok tyOK) Tryd.func17 rfl (by kernel_rfl) ?_; simp only [Tryd.ntmps17, List.length_cons, List.length_nil, Nat.reduceAdd, Nat.reduceSub, List.replicate_succ, List.replicate_zero, List.cons_append, List.nil_append])
  (refine Wk.o ?_; (repeat revert hK K); refine W9851a ?_; (repeat intro K hK); refine ⟨?_⟩)
  (refine AX_wh (σ := Nat) [8, 9, 10, 11, 12, 13, 14, 15, 16, 17, 18, 19, 20] (fun i => [(4, lint i)]) (fun i => []) (fun i => []) (fun i => i ≤ h.length ∧ spA h = h.take i ++ (h.drop i).takeWhile nn ∧ spR h = rowsOf ((h.drop i).dropWhile nn)) (fun i => h.length - i) 0 (fun d => by first | ((simp only [deadS, updS, List.set_cons_succ, List.set_cons_zero, lint, List.length_nil, List.length_cons]); done) | ((simp only [deadS, updS, List.set_cons_succ, List.set_cons_zero, lint, List.length_nil, List.length_cons]); rfl) | rfl) (by first | (with_reducible rfl) | (simp only [hinit]; done) | rfl) (by first | (with_reducible rfl) | rfl) (by first | exact ⟨Nat.zero_le _, by simp [spA], by simp [spR]⟩) ?_; rintro i d fr hfr ⟨hi, hA, hR⟩; simp only [updS, deadS, List.set_cons_succ, List.set_cons_zero, lint] at hfr; subst hfr; (try dsimp only))
  by_cases hc : i < h.length ∧ nn (h.getD i 0) = true
  · obtain ⟨hlt, hn⟩ := hc
    have hs1 : decide ((i : Int) < (h.length : Int)) = true := decide_eq_true (by omega)
    have hs2 : decide (0 ≤ h.getD i 0) = true := hn
    obtain ⟨e1, e2⟩ := tw_at hlt hn
    have hI2 : i + 1 ≤ h.length ∧ spA h = h.take (i + 1) ++ (h.drop (i + 1)).takeWhile nn ∧ spR h = rowsOf ((h.drop (i + 1)).dropWhile nn) := ⟨by omega, by
      have e3 := take_snocD (k := 0) hlt (Nat.zero_le _)
      simp only [List.drop_zero, Nat.sub_zero] at e3
      rw [hA, e1, e3]; simp, by rw [hR, e2]⟩
    (refine Wk.o ?_; (repeat revert hK K); refine W9851a ?_; (repeat intro K hK); refine ⟨?_⟩)
    exact WEND (i + 1) hI2 (by (first | omega | (dsimp only; omega) | (simp only; omega)))
  · have he : i = h.length ∨ nn (h.getD i 0) = false := by
      rcases Nat.lt_or_ge i h.length with h1 | h1
      · exact .inr (by cases hb : nn (h.getD i 0) with | false => rfl | true => exact absurd ⟨h1, hb⟩ hc)
      · exact .inl (by omega)
    obtain ⟨e1, e2⟩ := tw_end he hi
    rw [e1, List.append_nil] at hA
    clear e2
    by_cases hlt : i < h.length
    · have hs1 : decide ((i : Int) < (h.length : Int)) = true := decide_eq_true (by omega)
      have hs2 : decide (0 ≤ h.getD i 0) = false := he.resolve_left (by omega)
      (refine Wk.o ?_; (repeat revert hK K); refine W9851a ?_; (repeat intro K hK); refine ⟨?_⟩)
      refine AX_nil 5 31 1 rfl ?_
      have hinit : ([] : List (List Int)).map rwI = [] := rfl
      clear hs1 hs2
      have hs1 := trivial; have hs2 := trivial
      (refine AX_wh (σ := Nat × List (List Int)) [22, 23, 24, 25, 28, 29, 30, 31, 32, 33, 34, 7, 35, 36, 37, 38, 39, 40, 41, 42, 43, 44, 45, 46, 47, 48, 49, 50, 51, 52, 53, 54, 26, 27] (fun (k, R) => [(6, lint k), (5, .osl 0 0 R.length 1)]) (fun (k, R) => [some ⟨31, R.map rwI⟩]) (fun (k, R) => []) (fun (k, R) => i ≤ k ∧ k ≤ h.length ∧ spR h = R ++ rowsOf ((h.drop k).dropWhile nn) ∧ R.length ≤ k) (fun (k, R) => h.length - k) (i, []) (fun d => by first | ((simp only [deadS, updS, List.set_cons_succ, List.set_cons_zero, lint, List.length_nil, List.length_cons]); done) | ((simp only [deadS, updS, List.set_cons_succ, List.set_cons_zero, lint, List.length_nil, List.length_cons]); rfl) | rfl) (by first | (with_reducible rfl) | (simp only [hinit]; done) | rfl) (by first | (with_reducible rfl) | rfl) (by first | exact ⟨Nat.le_refl _, hi, hR, by simp⟩) ?_; rintro ⟨k, R⟩ d fr hfr ⟨hik, hk, hR2, hRl⟩; simp only [updS, deadS, List.set_cons_succ, List.set_cons_zero, lint] at hfr; subst hfr; (try dsimp only))
      by_cases hkl : k < h.length
      · have hs3 : decide ((k : Int) < (h.length : Int)) = true := decide_eq_true (by omega)
        by_cases hn : h.getD k 0 < 0
        · have hs4 : decide (h.getD k 0 < 0) = true := decide_eq_true hn
          have hb : nn (h.getD k 0) = false := decide_eq_false (by omega)
          have hR3 : spR h = R ++ (h.getD k 0 :: (h.drop (k + 1)).takeWhile nn) :: rowsOf ((h.drop (k + 1)).dropWhile nn) := by
            rw [hR2, dropD10 hkl, List.dropWhile_cons, if_neg (by rw [hb]; decide), rowsOf_cons]
          have hrow : ∀ j, k + 1 ≤ j → (h.drop k).take (j - k) = h.getD k 0 :: (h.drop (k + 1)).take (j - (k + 1)) := fun j hj => by
            rw [dropD10 hkl, show j - k = j - (k + 1) + 1 by omega, List.take_succ_cons]
          (refine Wk.o ?_; (repeat revert hK K); refine W9851a ?_; (repeat intro K hK); refine ⟨?_⟩)
          (refine AX_wh (σ := Nat) [35, 36, 37, 38, 39, 40, 41, 42, 43, 44, 45, 46, 47] (fun j => [(7, lint j)]) (fun j => [some ⟨31, R.map rwI⟩]) (fun j => []) (fun j => k + 1 ≤ j ∧ j ≤ h.length ∧ (h.drop (k + 1)).takeWhile nn = (h.drop (k + 1)).take (j - (k + 1)) ++ (h.drop j).takeWhile nn) (fun j => h.length - j) (k + 1) (fun d => by first | ((simp only [deadS, updS, List.set_cons_succ, List.set_cons_zero, lint, List.length_nil, List.length_cons]); done) | ((simp only [deadS, updS, List.set_cons_succ, List.set_cons_zero, lint, List.length_nil, List.length_cons]); rfl) | rfl) (by first | (with_reducible rfl) | (simp only [hinit]; done) | rfl) (by first | (with_reducible rfl) | rfl) (by first | exact ⟨Nat.le_refl _, by omega, by simp⟩) ?_; rintro j d fr hfr ⟨hj1, hj2, hT⟩; simp only [updS, deadS, List.set_cons_succ, List.set_cons_zero, lint] at hfr; subst hfr; (try dsimp only))
          by_cases hcj : j < h.length ∧ nn (h.getD j 0) = true
          · obtain ⟨hjl, hnj⟩ := hcj
            have hs5 : decide ((j : Int) < (h.length : Int)) = true := decide_eq_true (by omega)
            have hs6 : decide (0 ≤ h.getD j 0) = true := hnj
            obtain ⟨g1, g2⟩ := tw_at hjl hnj
            have hI3 : k + 1 ≤ j + 1 ∧ j + 1 ≤ h.length ∧ (h.drop (k + 1)).takeWhile nn = (h.drop (k + 1)).take (j + 1 - (k + 1)) ++ (h.drop (j + 1)).takeWhile nn := ⟨by omega, by omega, by rw [hT, g1, take_snocD hjl hj1]; simp⟩
            (refine Wk.o ?_; (repeat revert hK K); refine W9851a ?_; (repeat intro K hK); refine ⟨?_⟩)
            exact WEND (j + 1) hI3 (by (first | omega | (dsimp only; omega) | (simp only; omega)))
          · have hej : j = h.length ∨ nn (h.getD j 0) = false := by
              rcases Nat.lt_or_ge j h.length with h1 | h1
              · exact .inr (by cases hb : nn (h.getD j 0) with | false => rfl | true => exact absurd ⟨h1, hb⟩ hcj)
              · exact .inl (by omega)
            rw [(tw_end hej hj2).1, List.append_nil] at hT
            rw [hT, ← hrow j hj1] at hR3
            obtain ⟨w, hw⟩ : ∃ w, w = (h.drop k).take (j - k) := ⟨_, rfl⟩
            rw [← hw] at hR3
            have hs7 := rwI_snoc2 R w
            by_cases hjl : j < h.length
            · have hs5 : decide ((j : Int) < (h.length : Int)) = true := decide_eq_true (by omega)
              have hs6 : decide (0 ≤ h.getD j 0) = false := hej.resolve_left (by omega)
              (repeat ((fail_if_success (show AX _ _ (Code.region 12 _ _) _ _)); (first | (first | (with_reducible first | refine AX_block ?_ | refine AX_skip ?_ | refine AX_exit ?_ | refine AX_ret ?_ | refine AX_ift ?_ | refine AX_iff ?_ | refine AX_seq_k (fun K hK => ?_) | refine ContX.use (by assumption) ?_) | simp only [thenX, inBlockX, if_true, if_false, reduceCtorEq]) | (first | ((with_reducible refine XOP tyOK ?_); simp (disch := omega) only [go_sem , iInts, hs1, hs2, hs3, hs4, hs5, hs6, hs7, hs8, Int.toNat_zero, Int.toNat_one, Int.reduceToNat, Nat.zero_add, Int.toNat_natCast, List.length_map, Nat.reduceEqDiff, List.length_append, List.length_singleton, List.length_cons, List.length_nil, List.map_nil, List.nil_append]; (with_reducible refine XRes_id ?_)) | (with_reducible refine XSK ?_)) | ((with_reducible refine XRes_nil ?_); refine hK _ ?_; clear hK K) | ((with_reducible refine AX_reg0 fun K hK => ?_); simp only [go_sem]))))
              refine AX_reg0 fun K hK => ?_
              simp only [go_sem]
              (first | ((with_reducible refine XOP tyOK ?_); simp (disch := omega) only [go_sem , iInts, hs1, hs2, hs3, hs4, hs5, hs6, hs7, hs8, Int.toNat_zero, Int.toNat_one, Int.reduceToNat, Nat.zero_add, Int.toNat_natCast, List.length_map, Nat.reduceEqDiff, List.length_append, List.length_singleton, List.length_cons, List.length_nil, List.map_nil, List.nil_append]; (with_reducible refine XRes_id ?_)) | (with_reducible refine XSK ?_))
              (first | ((with_reducible refine XOP tyOK ?_); simp (disch := omega) only [go_sem , iInts, hs1, hs2, hs3, hs4, hs5, hs6, hs7, hs8, Int.toNat_zero, Int.toNat_one, Int.reduceToNat, Nat.zero_add, Int.toNat_natCast, List.length_map, Nat.reduceEqDiff, List.length_append, List.length_singleton, List.length_cons, List.length_nil, List.map_nil, List.nil_append]; (with_reducible refine XRes_id ?_)) | (with_reducible refine XSK ?_))
              (first | ((with_reducible refine XOP tyOK ?_); simp (disch := omega) only [go_sem , iInts, hs1, hs2, hs3, hs4, hs5, hs6, hs7, hs8, Int.toNat_zero, Int.toNat_one, Int.reduceToNat, Nat.zero_add, Int.toNat_natCast, List.length_map, Nat.reduceEqDiff, List.length_append, List.length_singleton, List.length_cons, List.length_nil, List.map_nil, List.nil_append]; (with_reducible refine XRes_id ?_)) | (with_reducible refine XSK ?_))
              (first | ((with_reducible refine XOP tyOK ?_); simp (disch := omega) only [go_sem , iInts, hs1, hs2, hs3, hs4, hs5, hs6, hs7, hs8, Int.toNat_zero, Int.toNat_one, Int.reduceToNat, Nat.zero_add, Int.toNat_natCast, List.length_map, Nat.reduceEqDiff, List.length_append, List.length_singleton, List.length_cons, List.length_nil, List.map_nil, List.nil_append]; (with_reducible refine XRes_id ?_)) | (with_reducible refine XSK ?_))
              (first | ((with_reducible refine XOP tyOK ?_); simp (disch := omega) only [go_sem , iInts, hs1, hs2, hs3, hs4, hs5, hs6, hs7, hs8, Int.toNat_zero, Int.toNat_one, Int.reduceToNat, Nat.zero_add, Int.toNat_natCast, List.length_map, Nat.reduceEqDiff, List.length_append, List.length_singleton, List.length_cons, List.length_nil, List.map_nil, List.nil_append]; (with_reducible refine XRes_id ?_)) | (with_reducible refine XSK ?_))
              refine XRes_exch 52 _ (.iv (iInts w)) rfl (fun n G v hr => by rw [hw]; exact exch_cut (by omega) (by omega) hr) ?_
              simp only [List.set_cons_succ, List.set_cons_zero]
              (refine Wk.o ?_; (repeat revert hK K); refine W9851a ?_; (repeat intro K hK); refine ⟨?_⟩)
              exact whx_ren [2] (k + 1, R ++ [w]) ⟨by (dsimp only; omega), by (dsimp only; omega), by (dsimp only; rw [hR3]; simp), by (dsimp only; rw [List.length_append, List.length_singleton]; omega)⟩ (by (first | omega | (dsimp only; omega) | (simp only; omega))) rfl (by decide) (by decide) (by (simp (disch := omega) only [go_sem, lint , iInts, hs1, hs2, hs3, hs4, hs5, hs6, hs7, hs8, Int.toNat_zero, Int.toNat_one, Int.reduceToNat, Nat.zero_add, Int.toNat_natCast, List.length_map, Nat.reduceEqDiff, List.length_append, List.length_singleton, List.length_cons, List.length_nil, List.map_nil, List.nil_append])) (by (simp (disch := omega) only [go_sem, lint , iInts, hs1, hs2, hs3, hs4, hs5, hs6, hs7, hs8, Int.toNat_zero, Int.toNat_one, Int.reduceToNat, Nat.zero_add, Int.toNat_natCast, List.length_map, Nat.reduceEqDiff, List.length_append, List.length_singleton, List.length_cons, List.length_nil, List.map_nil, List.nil_append])) (by (simp (disch := omega) only [go_sem, lint , iInts, hs1, hs2, hs3, hs4, hs5, hs6, hs7, hs8, Int.toNat_zero, Int.toNat_one, Int.reduceToNat, Nat.zero_add, Int.toNat_natCast, List.length_map, Nat.reduceEqDiff, List.length_append, List.length_singleton, List.length_cons, List.length_nil, List.map_nil, List.nil_append])) (fun d => by first | ((simp (disch := omega) only [go_sem, lint , iInts, hs1, hs2, hs3, hs4, hs5, hs6, hs7, hs8, Int.toNat_zero, Int.toNat_one, Int.reduceToNat, Nat.zero_add, Int.toNat_natCast, List.length_map, Nat.reduceEqDiff, List.length_append, List.length_singleton, List.length_cons, List.length_nil, List.map_nil, List.nil_append]); done) | ((simp (disch := omega) only [go_sem, lint , iInts, hs1, hs2, hs3, hs4, hs5, hs6, hs7, hs8, Int.toNat_zero, Int.toNat_one, Int.reduceToNat, Nat.zero_add, Int.toNat_natCast, List.length_map, Nat.reduceEqDiff, List.length_append, List.length_singleton, List.length_cons, List.length_nil, List.map_nil, List.nil_append]); rfl))
            · have hs5 : decide ((j : Int) < (h.length : Int)) = false := decide_eq_false (by omega)
              (repeat ((fail_if_success (show AX _ _ (Code.region 12 _ _) _ _)); (first | (first | (with_reducible first | refine AX_block ?_ | refine AX_skip ?_ | refine AX_exit ?_ | refine AX_ret ?_ | refine AX_ift ?_ | refine AX_iff ?_ | refine AX_seq_k (fun K hK => ?_) | refine ContX.use (by assumption) ?_) | simp only [thenX, inBlockX, if_true, if_false, reduceCtorEq]) | (first | ((with_reducible refine XOP tyOK ?_); simp (disch := omega) only [go_sem , iInts, hs1, hs2, hs3, hs4, hs5, hs6, hs7, hs8, Int.toNat_zero, Int.toNat_one, Int.reduceToNat, Nat.zero_add, Int.toNat_natCast, List.length_map, Nat.reduceEqDiff, List.length_append, List.length_singleton, List.length_cons, List.length_nil, List.map_nil, List.nil_append]; (with_reducible refine XRes_id ?_)) | (with_reducible refine XSK ?_)) | ((with_reducible refine XRes_nil ?_); refine hK _ ?_; clear hK K) | ((with_reducible refine AX_reg0 fun K hK => ?_); simp only [go_sem]))))
              refine AX_reg0 fun K hK => ?_
              simp only [go_sem]
              (first | ((with_reducible refine XOP tyOK ?_); simp (disch := omega) only [go_sem , iInts, hs1, hs2, hs3, hs4, hs5, hs6, hs7, hs8, Int.toNat_zero, Int.toNat_one, Int.reduceToNat, Nat.zero_add, Int.toNat_natCast, List.length_map, Nat.reduceEqDiff, List.length_append, List.length_singleton, List.length_cons, List.length_nil, List.map_nil, List.nil_append]; (with_reducible refine XRes_id ?_)) | (with_reducible refine XSK ?_))
              (first | ((with_reducible refine XOP tyOK ?_); simp (disch := omega) only [go_sem , iInts, hs1, hs2, hs3, hs4, hs5, hs6, hs7, hs8, Int.toNat_zero, Int.toNat_one, Int.reduceToNat, Nat.zero_add, Int.toNat_natCast, List.length_map, Nat.reduceEqDiff, List.length_append, List.length_singleton, List.length_cons, List.length_nil, List.map_nil, List.nil_append]; (with_reducible refine XRes_id ?_)) | (with_reducible refine XSK ?_))
              (first | ((with_reducible refine XOP tyOK ?_); simp (disch := omega) only [go_sem , iInts, hs1, hs2, hs3, hs4, hs5, hs6, hs7, hs8, Int.toNat_zero, Int.toNat_one, Int.reduceToNat, Nat.zero_add, Int.toNat_natCast, List.length_map, Nat.reduceEqDiff, List.length_append, List.length_singleton, List.length_cons, List.length_nil, List.map_nil, List.nil_append]; (with_reducible refine XRes_id ?_)) | (with_reducible refine XSK ?_))
              (first | ((with_reducible refine XOP tyOK ?_); simp (disch := omega) only [go_sem , iInts, hs1, hs2, hs3, hs4, hs5, hs6, hs7, hs8, Int.toNat_zero, Int.toNat_one, Int.reduceToNat, Nat.zero_add, Int.toNat_natCast, List.length_map, Nat.reduceEqDiff, List.length_append, List.length_singleton, List.length_cons, List.length_nil, List.map_nil, List.nil_append]; (with_reducible refine XRes_id ?_)) | (with_reducible refine XSK ?_))
              (first | ((with_reducible refine XOP tyOK ?_); simp (disch := omega) only [go_sem , iInts, hs1, hs2, hs3, hs4, hs5, hs6, hs7, hs8, Int.toNat_zero, Int.toNat_one, Int.reduceToNat, Nat.zero_add, Int.toNat_natCast, List.length_map, Nat.reduceEqDiff, List.length_append, List.length_singleton, List.length_cons, List.length_nil, List.map_nil, List.nil_append]; (with_reducible refine XRes_id ?_)) | (with_reducible refine XSK ?_))
              refine XRes_exch 52 _ (.iv (iInts w)) rfl (fun n G v hr => by rw [hw]; exact exch_cut (by omega) (by omega) hr) ?_
              simp only [List.set_cons_succ, List.set_cons_zero]
              (refine Wk.o ?_; (repeat revert hK K); refine W9851a ?_; (repeat intro K hK); refine ⟨?_⟩)
              exact whx_ren [2] (k + 1, R ++ [w]) ⟨by (dsimp only; omega), by (dsimp only; omega), by (dsimp only; rw [hR3]; simp), by (dsimp only; rw [List.length_append, List.length_singleton]; omega)⟩ (by (first | omega | (dsimp only; omega) | (simp only; omega))) rfl (by decide) (by decide) (by (simp (disch := omega) only [go_sem, lint , iInts, hs1, hs2, hs3, hs4, hs5, hs6, hs7, hs8, Int.toNat_zero, Int.toNat_one, Int.reduceToNat, Nat.zero_add, Int.toNat_natCast, List.length_map, Nat.reduceEqDiff, List.length_append, List.length_singleton, List.length_cons, List.length_nil, List.map_nil, List.nil_append])) (by (simp (disch := omega) only [go_sem, lint , iInts, hs1, hs2, hs3, hs4, hs5, hs6, hs7, hs8, Int.toNat_zero, Int.toNat_one, Int.reduceToNat, Nat.zero_add, Int.toNat_natCast, List.length_map, Nat.reduceEqDiff, List.length_append, List.length_singleton, List.length_cons, List.length_nil, List.map_nil, List.nil_append])) (by (simp (disch := omega) only [go_sem, lint , iInts, hs1, hs2, hs3, hs4, hs5, hs6, hs7, hs8, Int.toNat_zero, Int.toNat_one, Int.reduceToNat, Nat.zero_add, Int.toNat_natCast, List.length_map, Nat.reduceEqDiff, List.length_append, List.length_singleton, List.length_cons, List.length_nil, List.map_nil, List.nil_append])) (fun d => by first | ((simp (disch := omega) only [go_sem, lint , iInts, hs1, hs2, hs3, hs4, hs5, hs6, hs7, hs8, Int.toNat_zero, Int.toNat_one, Int.reduceToNat, Nat.zero_add, Int.toNat_natCast, List.length_map, Nat.reduceEqDiff, List.length_append, List.length_singleton, List.length_cons, List.length_nil, List.map_nil, List.nil_append]); done) | ((simp (disch := omega) only [go_sem, lint , iInts, hs1, hs2, hs3, hs4, hs5, hs6, hs7, hs8, Int.toNat_zero, Int.toNat_one, Int.reduceToNat, Nat.zero_add, Int.toNat_natCast, List.length_map, Nat.reduceEqDiff, List.length_append, List.length_singleton, List.length_cons, List.length_nil, List.map_nil, List.nil_append]); rfl))
        · have hs4 : decide (h.getD k 0 < 0) = false := decide_eq_false hn
          have hb : nn (h.getD k 0) = true := decide_eq_true (by omega)
          rw [(tw_at hkl hb).2] at hR2
          (refine Wk.o ?_; (repeat revert hK K); refine W9851a ?_; (repeat intro K hK); refine ⟨?_⟩)
          exact whx_ren [0] (k + 1, R) ⟨by (dsimp only; omega), by (dsimp only; omega), hR2, by (dsimp only; omega)⟩ (by (first | omega | (dsimp only; omega) | (simp only; omega))) rfl (by decide) (by decide) (by (simp (disch := omega) only [go_sem, lint , iInts, hs1, hs2, hs3, hs4, hs5, hs6, hs7, hs8, Int.toNat_zero, Int.toNat_one, Int.reduceToNat, Nat.zero_add, Int.toNat_natCast, List.length_map, Nat.reduceEqDiff, List.length_append, List.length_singleton, List.length_cons, List.length_nil, List.map_nil, List.nil_append])) (by (simp (disch := omega) only [go_sem, lint , iInts, hs1, hs2, hs3, hs4, hs5, hs6, hs7, hs8, Int.toNat_zero, Int.toNat_one, Int.reduceToNat, Nat.zero_add, Int.toNat_natCast, List.length_map, Nat.reduceEqDiff, List.length_append, List.length_singleton, List.length_cons, List.length_nil, List.map_nil, List.nil_append])) (by (simp (disch := omega) only [go_sem, lint , iInts, hs1, hs2, hs3, hs4, hs5, hs6, hs7, hs8, Int.toNat_zero, Int.toNat_one, Int.reduceToNat, Nat.zero_add, Int.toNat_natCast, List.length_map, Nat.reduceEqDiff, List.length_append, List.length_singleton, List.length_cons, List.length_nil, List.map_nil, List.nil_append])) (fun d => by first | ((simp (disch := omega) only [go_sem, lint , iInts, hs1, hs2, hs3, hs4, hs5, hs6, hs7, hs8, Int.toNat_zero, Int.toNat_one, Int.reduceToNat, Nat.zero_add, Int.toNat_natCast, List.length_map, Nat.reduceEqDiff, List.length_append, List.length_singleton, List.length_cons, List.length_nil, List.map_nil, List.nil_append]); done) | ((simp (disch := omega) only [go_sem, lint , iInts, hs1, hs2, hs3, hs4, hs5, hs6, hs7, hs8, Int.toNat_zero, Int.toNat_one, Int.reduceToNat, Nat.zero_add, Int.toNat_natCast, List.length_map, Nat.reduceEqDiff, List.length_append, List.length_singleton, List.length_cons, List.length_nil, List.map_nil, List.nil_append]); rfl))
      · skip
        have hs3 : decide ((k : Int) < (h.length : Int)) = false := decide_eq_false (by omega)
        have hR4 : spR h = R := by rw [hR2, List.drop_of_length_le (by omega), List.dropWhile_nil, rowsOf_nil, List.append_nil]
        (repeat ((fail_if_success (show AX _ _ (Code.region 13 _ _) _ _)); (first | (first | (with_reducible first | refine AX_block ?_ | refine AX_skip ?_ | refine AX_exit ?_ | refine AX_ret ?_ | refine AX_ift ?_ | refine AX_iff ?_ | refine AX_seq_k (fun K hK => ?_) | refine ContX.use (by assumption) ?_) | simp only [thenX, inBlockX, if_true, if_false, reduceCtorEq]) | (first | ((with_reducible refine XOP tyOK ?_); simp (disch := omega) only [go_sem , iInts, hs1, hs2, hs3, hs4, hs5, hs6, hs7, hs8, Int.toNat_zero, Int.toNat_one, Int.reduceToNat, Nat.zero_add, Int.toNat_natCast, List.length_map, Nat.reduceEqDiff, List.length_append, List.length_singleton, List.length_cons, List.length_nil, List.map_nil, List.nil_append]; (with_reducible refine XRes_id ?_)) | (with_reducible refine XSK ?_)) | ((with_reducible refine XRes_nil ?_); refine hK _ ?_; clear hK K) | ((with_reducible refine AX_reg0 fun K hK => ?_); simp only [go_sem]))))
        refine AX_reg0 fun K hK => ?_
        simp only [go_sem]
        (first | ((with_reducible refine XOP tyOK ?_); simp (disch := omega) only [go_sem , iInts, hs1, hs2, hs3, hs4, hs5, hs6, hs7, hs8, Int.toNat_zero, Int.toNat_one, Int.reduceToNat, Nat.zero_add, Int.toNat_natCast, List.length_map, Nat.reduceEqDiff, List.length_append, List.length_singleton, List.length_cons, List.length_nil, List.map_nil, List.nil_append]; (with_reducible refine XRes_id ?_)) | (with_reducible refine XSK ?_))
        (first | ((with_reducible refine XOP tyOK ?_); simp (disch := omega) only [go_sem , iInts, hs1, hs2, hs3, hs4, hs5, hs6, hs7, hs8, Int.toNat_zero, Int.toNat_one, Int.reduceToNat, Nat.zero_add, Int.toNat_natCast, List.length_map, Nat.reduceEqDiff, List.length_append, List.length_singleton, List.length_cons, List.length_nil, List.map_nil, List.nil_append]; (with_reducible refine XRes_id ?_)) | (with_reducible refine XSK ?_))
        (first | ((with_reducible refine XOP tyOK ?_); simp (disch := omega) only [go_sem , iInts, hs1, hs2, hs3, hs4, hs5, hs6, hs7, hs8, Int.toNat_zero, Int.toNat_one, Int.reduceToNat, Nat.zero_add, Int.toNat_natCast, List.length_map, Nat.reduceEqDiff, List.length_append, List.length_singleton, List.length_cons, List.length_nil, List.map_nil, List.nil_append]; (with_reducible refine XRes_id ?_)) | (with_reducible refine XSK ?_))
        refine XRes_exch 57 _ (.iv (iInts (h.take i))) rfl (fun n G v hr => exch_cut0 hi hr) ?_
        simp only [List.set_cons_succ, List.set_cons_zero]
        (refine Wk.o ?_; (repeat revert hK K); refine W9851a ?_; (repeat intro K hK); refine ⟨?_⟩)
        (simp only [bodyX]; refine ⟨_, by simp only [aresults, aresult, XS.as, Tryd.results17, aload, go_sem, Option.bind_some]; rfl, ?_⟩)
        exact ⟨_, snap_pr (.same _ (.iv _)) (.iv _ _ (snapC_rwI (R := R) rfl)), by first | (rw [hA, hR4]; done) | (rw [hA, hR4]; rfl), trivial⟩
    · have hs1 : decide ((i : Int) < (h.length : Int)) = false := decide_eq_false (by omega)
      (refine Wk.o ?_; (repeat revert hK K); refine W9851a ?_; (repeat intro K hK); refine ⟨?_⟩)
      refine AX_nil 5 31 1 rfl ?_
      have hinit : ([] : List (List Int)).map rwI = [] := rfl
      clear hs1
      have hs1 := trivial
      (refine AX_wh (σ := Nat × List (List Int)) [22, 23, 24, 25, 28, 29, 30, 31, 32, 33, 34, 7, 35, 36, 37, 38, 39, 40, 41, 42, 43, 44, 45, 46, 47, 48, 49, 50, 51, 52, 53, 54, 26, 27] (fun (k, R) => [(6, lint k), (5, .osl 0 0 R.length 1)]) (fun (k, R) => [some ⟨31, R.map rwI⟩]) (fun (k, R) => []) (fun (k, R) => i ≤ k ∧ k ≤ h.length ∧ spR h = R ++ rowsOf ((h.drop k).dropWhile nn) ∧ R.length ≤ k) (fun (k, R) => h.length - k) (i, []) (fun d => by first | ((simp only [deadS, updS, List.set_cons_succ, List.set_cons_zero, lint, List.length_nil, List.length_cons]); done) | ((simp only [deadS, updS, List.set_cons_succ, List.set_cons_zero, lint, List.length_nil, List.length_cons]); rfl) | rfl) (by first | (with_reducible rfl) | (simp only [hinit]; done) | rfl) (by first | (with_reducible rfl) | rfl) (by first | exact ⟨Nat.le_refl _, hi, hR, by simp⟩) ?_; rintro ⟨k, R⟩ d fr hfr ⟨hik, hk, hR2, hRl⟩; simp only [updS, deadS, List.set_cons_succ, List.set_cons_zero, lint] at hfr; subst hfr; (try dsimp only))
      have hs3 : decide ((k : Int) < (h.length : Int)) = false := decide_eq_false (by omega)
      have hR4 : spR h = R := by rw [hR2, List.drop_of_length_le (by omega), List.dropWhile_nil, rowsOf_nil, List.append_nil]
      (repeat ((fail_if_success (show AX _ _ (Code.region 13 _ _) _ _)); (first | (first | (with_reducible first | refine AX_block ?_ | refine AX_skip ?_ | refine AX_exit ?_ | refine AX_ret ?_ | refine AX_ift ?_ | refine AX_iff ?_ | refine AX_seq_k (fun K hK => ?_) | refine ContX.use (by assumption) ?_) | simp only [thenX, inBlockX, if_true, if_false, reduceCtorEq]) | (first | ((with_reducible refine XOP tyOK ?_); simp (disch := omega) only [go_sem , iInts, hs1, hs2, hs3, hs4, hs5, hs6, hs7, hs8, Int.toNat_zero, Int.toNat_one, Int.reduceToNat, Nat.zero_add, Int.toNat_natCast, List.length_map, Nat.reduceEqDiff, List.length_append, List.length_singleton, List.length_cons, List.length_nil, List.map_nil, List.nil_append]; (with_reducible refine XRes_id ?_)) | (with_reducible refine XSK ?_)) | ((with_reducible refine XRes_nil ?_); refine hK _ ?_; clear hK K) | ((with_reducible refine AX_reg0 fun K hK => ?_); simp only [go_sem]))))
      refine AX_reg0 fun K hK => ?_
      simp only [go_sem]
      (first | ((with_reducible refine XOP tyOK ?_); simp (disch := omega) only [go_sem , iInts, hs1, hs2, hs3, hs4, hs5, hs6, hs7, hs8, Int.toNat_zero, Int.toNat_one, Int.reduceToNat, Nat.zero_add, Int.toNat_natCast, List.length_map, Nat.reduceEqDiff, List.length_append, List.length_singleton, List.length_cons, List.length_nil, List.map_nil, List.nil_append]; (with_reducible refine XRes_id ?_)) | (with_reducible refine XSK ?_))
      (first | ((with_reducible refine XOP tyOK ?_); simp (disch := omega) only [go_sem , iInts, hs1, hs2, hs3, hs4, hs5, hs6, hs7, hs8, Int.toNat_zero, Int.toNat_one, Int.reduceToNat, Nat.zero_add, Int.toNat_natCast, List.length_map, Nat.reduceEqDiff, List.length_append, List.length_singleton, List.length_cons, List.length_nil, List.map_nil, List.nil_append]; (with_reducible refine XRes_id ?_)) | (with_reducible refine XSK ?_))
      (first | ((with_reducible refine XOP tyOK ?_); simp (disch := omega) only [go_sem , iInts, hs1, hs2, hs3, hs4, hs5, hs6, hs7, hs8, Int.toNat_zero, Int.toNat_one, Int.reduceToNat, Nat.zero_add, Int.toNat_natCast, List.length_map, Nat.reduceEqDiff, List.length_append, List.length_singleton, List.length_cons, List.length_nil, List.map_nil, List.nil_append]; (with_reducible refine XRes_id ?_)) | (with_reducible refine XSK ?_))
      refine XRes_exch 57 _ (.iv (iInts (h.take i))) rfl (fun n G v hr => exch_cut0 hi hr) ?_
      simp only [List.set_cons_succ, List.set_cons_zero]
      (refine Wk.o ?_; (repeat revert hK K); refine W9851a ?_; (repeat intro K hK); refine ⟨?_⟩)
      (simp only [bodyX]; refine ⟨_, by simp only [aresults, aresult, XS.as, Tryd.results17, aload, go_sem, Option.bind_some]; rfl, ?_⟩)
      exact ⟨_, snap_pr (.same _ (.iv _)) (.iv _ _ (snapC_rwI (R := R) rfl)), by first | (rw [hA, hR4]; done) | (rw [hA, hR4]; rfl), trivial⟩
end Go.Proofs.YtghdacijcnmhlaaDoor
