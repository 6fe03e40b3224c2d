import Derived.Test.YtghdacijcnmhlaaDoorMgBK
import Derived.Test.YtghdacijcnmhlaaDoorMgBE
import Derived.Test.YtghdacijcnmhlaaDoorMgAL
import Derived.Test.YtghdacijcnmhlaaDoorMgBD
import Derived.Test.YtghdacijcnmhlaaDoorMgBG
import Derived.Test.YtghdacijcnmhlaaDoorMgBF
namespace Go.Proofs.YtghdacijcnmhlaaDoor
open Go.RowKit Go.Lib
set_option linter.unusedVariables false
set_option linter.unusedSimpArgs false
def prT (xs : List Stp) : List UInt8 := if ckE xs = 0 then pfB xs else []
theorem pfB_step {xs : List Stp} {k : Nat} (h : k < xs.length) : pfB (xs.take (k + 1)) = pfB (xs.take k) ++ stB (stAt xs k) := by
  unfold pfB
  rw [List.take_add_one, List.getElem?_eq_getElem h, stAt_get h, Option.toList_some, List.flatMap_append]
  simp
theorem pfB_le (xs : List Stp) (k : Nat) : (pfB (xs.take k)).length ≤ (pfB xs).length := by
  have e : pfB xs = pfB (xs.take k) ++ pfB (xs.drop k) := by unfold pfB; rw [← List.flatMap_append, List.take_append_drop]
  rw [e, List.length_append]; omega
theorem pfB_ne {xs : List Stp} (h : xs ≠ []) : pfB xs ≠ [] := by
  cases xs with
  | nil => exact absurd rfl h
  | cons x xs =>
    show stB x ++ pfB xs ≠ []
    unfold stB; simp
attribute [go_sem] rnL_u8C idL_u8C
theorem Wce1ea {A B : Prop} (h9 : B) (w : B → A := by (intro h9; (repeat intro K hK); refine ⟨?_⟩; (repeat (first | (first | (with_reducible first | refine AX_block ?_ | refine AX_skip ?_ | refine AX_exit ?_ | refine AX_ret ?_ | refine AX_ift ?_ | refine AX_iff ?_ | refine AX_seq_k (fun K hK => ?_) | refine ContX.use (by assumption) ?_) | simp only [thenX, inBlockX, if_true, if_false, reduceCtorEq]) | ((refine XRes_allocX tyOK (e := bT) (by rfl) (by rfl) (by rfl) ?_); (simp only [putL, List.set_cons_succ, List.set_cons_zero])) | (first | ((first | (with_reducible refine XRes_op tyOK ?_ ?_) | ((with_reducible first | refine ADF_op tyOK ?_ ?_ ?_ | refine ADX_op tyOK ?_ ?_ ?_); (focus rfl)) | (with_reducible refine ADR_alloc1 tyOK ?_ ?_) | ((with_reducible refine ADR_free1 tyOK ?_ ?_ ?_); (focus rfl)) | ((with_reducible refine ADR_free0 tyOK ?_ ?_ ?_); (focus rfl)) | ((with_reducible refine ADR_read1 tyOK ?_ ?_ ?_); (focus rfl)) | (with_reducible refine ADR_chg1 tyOK ?_ ?_)); (focus (first | (with_reducible rfl) | ((simp (disch := omega) only [go_sem]); done))); simp (disch := omega) only [go_sem , iInts, List.length_append, hs1, hs2, hs3, hs4, hs5, hs6, hs7, hs8, u8C_len, List.length_set, ba_app, ba_size, stG_0, stG_1, stG_2, stG_3, Int.toNat_zero, Int.toNat_one, Int.reduceToNat, Nat.zero_add, Int.toNat_natCast, List.length_cons, List.length_nil, Nat.reduceAdd]; (first | (with_reducible refine XRes_id ?_) | (with_reducible refine ADF_id ?_) | (with_reducible refine ADR_id1 ?_) | (with_reducible refine ADX_id ?_))) | ((first | (with_reducible refine XRes_skip ?_ ?_) | (with_reducible refine ADF_skip (b := true) ?_ ?_) | (with_reducible refine ADX_skip ?_ ?_) | ((with_reducible refine ADR_skip1 ?_ ?_ ?_); (focus rfl))); (focus (first | rfl | ((simp (disch := omega) only [go_sem]); done))); (simp only [putL, List.set_cons_succ, List.set_cons_zero]))) | ((first | (with_reducible refine XRes_nil ?_) | (with_reducible refine ADF_nil ?_) | (with_reducible refine ADR_nil ?_) | (with_reducible refine ADX_nil ?_)); (first | refine hK _ ?_ | refine hK _ _ ?_); clear hK K) | ((first | (with_reducible refine AX_reg0 fun K hK => ?_) | (refine AX_drawG1 tyOK (by kernel_rfl) (by rfl) (by kernel_rfl) fun K hK => ?_) | (refine AX_drawT tyOK (by kernel_rfl) (by decide +kernel) fun K hK => ?_) | (refine AX_drawM1 (by kernel_rfl) (by rfl) (by decide +kernel) fun K hK => ?_) | (refine AX_drawA tyOK (by kernel_rfl) (by decide +kernel) fun K hK => ?_)); (first | simp only [go_sem, preN, effOp, runF, alM, mapOp, alD2, kdOf2, Bool.not_false, Bool.not_true, reduceCtorEq] | simp only [go_sem, preN, effOp, runF, alM, mapOp, Bool.not_false, Bool.not_true, reduceCtorEq] | simp only [go_sem, preN, effOp, runF, alD2, kdOf2, Bool.not_false, Bool.not_true, reduceCtorEq] | simp only [go_sem, alD2, kdOf2, Bool.not_false, Bool.not_true, reduceCtorEq] | simp only [go_sem, preN, effOp, runF, Bool.not_false, Bool.not_true, reduceCtorEq] | simp only [go_sem])) | (first | (first | refine XTL (by rfl) hC ?_ | refine ATL tyOK (by rfl) hC ?_ | refine XTL (by rfl) hD ?_ | refine ATL tyOK (by rfl) hD ?_ | refine XTL (by rfl) hA ?_ | refine ATL tyOK (by rfl) hA ?_ | refine XTL (by rfl) hB ?_ | refine ATL tyOK (by rfl) hB ?_) | ((refine XRes_slot (by rfl) rfl (PF.tells (idsA rfl) (fun _ => rfl) hcl) ?_); (rintro r H' ⟨rfl, rfl⟩); (simp only [putL, List.set_cons_succ, List.set_cons_zero]))))); refine Wk.o ?_; (repeat revert hK K); exact h9)) : A := w h9
set_option maxRecDepth 100000 in
set_option maxHeartbeats 4000000 in
theorem pf_prPrintNo (xs : List Stp) (hx : StLen xs) (he : ckE xs ≠ 0) : PF Tryd.prog 14 [.iv (iSts xs)] fun r H' => r = .tup [lt (.string (ba [])), lt (.int .i64 (ckE xs))] ∧ H' = [] := by
  refine SF.forgetAll ?_
  have hs1 := trivial; have hs2 := trivial; have hs3 := trivial; have hs4 := trivial; have hs5 := trivial; have hs6 := trivial; have hs7 := trivial; have hs8 := trivial; have hC := trivial; have hD := trivial; have hA := trivial; have hB := trivial; have hcl := trivial
  have hC := pf_prCheck xs hx
  have hs1 : (ckE xs != 0) = true := by simpa using he
  unfold iSts at *
  (refine SF_of_bodyX (aload tt) (aload_ok tyOK) Tryd.func14 rfl (by kernel_rfl) ?_; simp only [Tryd.ntmps14, List.length_cons, List.length_nil, Nat.reduceAdd, Nat.reduceSub, List.replicate_succ, List.replicate_zero, List.cons_append, List.nil_append])
  (refine Wk.o ?_; (repeat revert hK K); refine Wce1ea ?_; (repeat intro K hK); refine ⟨?_⟩)
  (simp only [bodyX]; refine ⟨_, by simp only [aresults, aresult, XS.as, Tryd.results14, aload, go_sem, Option.bind_some]; rfl, ?_⟩)
  exact ⟨ids_idB rfl, rfl, trivial⟩
set_option maxRecDepth 100000 in
set_option maxHeartbeats 4000000 in
theorem pf_prPrint0 : PF Tryd.prog 14 [.iv (iSts [])] fun r H' => r = .tup [lt (.string (ba [])), lt (.int .i64 0)] ∧ H' = [] := by
  refine SF.forgetAll ?_
  have hs1 := trivial; have hs2 := trivial; have hs3 := trivial; have hs4 := trivial; have hs5 := trivial; have hs6 := trivial; have hs7 := trivial; have hs8 := trivial; have hC := trivial; have hD := trivial; have hA := trivial; have hB := trivial; have hcl := trivial
  have hC := pf_prCheck [] ⟨by simp, fun k => by simp [stAt, st0]⟩
  have e := (ck_ok (xs := []) (by simp)).2
  rw [e] at hC
  unfold iSts at *
  (refine SF_of_bodyX (aload tt) (aload_ok tyOK) Tryd.func14 rfl (by kernel_rfl) ?_; simp only [Tryd.ntmps14, List.length_cons, List.length_nil, Nat.reduceAdd, Nat.reduceSub, List.replicate_succ, List.replicate_zero, List.cons_append, List.nil_append])
  (refine Wk.o ?_; (repeat revert hK K); refine Wce1ea ?_; (repeat intro K hK); refine ⟨?_⟩)
  refine AX_wh (σ := Unit) [] (fun _ => []) (fun _ => [some ⟨bT, [lt (.pointer none), lt (.slice none 0 0)]⟩]) (fun _ => []) (fun _ => True) (fun _ => 0) () (fun d => rfl) rfl rfl trivial ?_
  rintro k d fr hfr -
  simp only [updS, deadS] at hfr
  subst hfr
  (refine Wk.o ?_; (repeat revert hK K); refine Wce1ea ?_; (repeat intro K hK); refine ⟨?_⟩)
  refine XRes_fn (by rfl) (sf_bstr0 (o := 0) (by rfl)) ?_
  rintro r H1 ⟨rfl, rfl⟩
  (simp only [putL, List.set_cons_succ, List.set_cons_zero])
  (refine Wk.o ?_; (repeat revert hK K); refine Wce1ea ?_; (repeat intro K hK); refine ⟨?_⟩)
  (simp only [bodyX]; refine ⟨_, by simp only [aresults, aresult, XS.as, Tryd.results14, aload, go_sem, Option.bind_some]; rfl, ?_⟩)
  exact ⟨ids_idB rfl, rfl, trivial⟩
set_option maxRecDepth 100000 in
set_option maxHeartbeats 8000000 in
theorem pf_prPrint1 (xs : List Stp) (hx : StLen xs) (h0 : xs ≠ []) (ho : ∀ s ∈ xs, stOk s) (hb : (pfB xs).length ≤ 1000000) : PF Tryd.prog 14 [.iv (iSts xs)] fun r H' => r = .tup [lt (.string (ba (pfB xs))), lt (.int .i64 0)] ∧ H' = [] := by
  refine SF.forgetAll ?_
  have hs1 := trivial; have hs2 := trivial; have hs3 := trivial; have hs4 := trivial; have hs5 := trivial; have hs6 := trivial; have hs7 := trivial; have hs8 := trivial; have hC := trivial; have hD := trivial; have hA := trivial; have hB := trivial; have hcl := trivial
  have hC := pf_prCheck xs hx
  rw [(ck_ok ho).2] at hC
  have hxl := hx.len
  unfold iSts at *
  (refine SF_of_bodyX (aload tt) (aload_ok tyOK) Tryd.func14 rfl (by kernel_rfl) ?_; simp only [Tryd.ntmps14, List.length_cons, List.length_nil, Nat.reduceAdd, Nat.reduceSub, List.replicate_succ, List.replicate_zero, List.cons_append, List.nil_append])
  (refine Wk.o ?_; (repeat revert hK K); refine Wce1ea ?_; (repeat intro K hK); refine ⟨?_⟩)
  refine AX_cellNew 0 5 1 1 _ rfl rfl ?_
  (simp only [putL, List.set_cons_succ, List.set_cons_zero])
  (refine AWH (σ := Nat × List UInt8 × Bool) [21, 22, 23, 8, 9, 24, 25, 26, 27, 28, 29, 30, 31, 32, 2, 3, 33] (fun (k, x, b) => [(20, lint k)]) (fun (k, x, b) => [some ⟨bT, [pz b, .osl 1 0 x.length 1]⟩, some ⟨5, u8C x⟩]) (fun (k, x, b) => []) (fun (k, x, b) => k ≤ xs.length ∧ x = pfB (xs.take k)) (fun (k, x, b) => xs.length - k) (0, [], false) (by first | exact ⟨Nat.zero_le _, by simp [pfB]⟩) ?_; rintro ⟨k, x, b⟩ d fr hfr ⟨hk, hx0⟩; simp only [updS, deadS, List.set_cons_succ, List.set_cons_zero, lint] at hfr; subst hfr; (try dsimp only))
  by_cases hlt : k < xs.length
  · have hs2 : decide ((k : Int) < (xs.length : Int)) = true := decide_eq_true (by omega)
    have hst := pfB_step hlt
    have hle := pfB_le xs (k + 1)
    rw [hst, List.length_append] at hle
    have hok : stOk (stAt xs k) := by rw [stAt_get hlt]; exact ho _ (List.getElem_mem hlt)
    rw [← hx0] at hst hle
    have hxl2 : x.length ≤ 1000000 := by omega
    have hpz : pz b = lt (.pointer none) ∨ pz b = .xptr 0 2 := by cases b; exact .inl rfl; exact .inr rfl
    by_cases hk2 : (stAt xs k).k = 2
    · have hs4 : ((stAt xs k).k == 2) = true := by simpa using hk2
      have hcl := pf_deleted (stAt xs k) hok hk2
      unfold iInts at hcl
      generalize stB (stAt xs k) = y at *
      have hs5 : decide ((1000000 : Int) < ((x.length : Int) + (y.length : Int))) = false := decide_eq_false (by omega)
      (refine Wk.o ?_; (repeat revert hK K); refine Wce1ea ?_; (repeat intro K hK); refine ⟨?_⟩)
      refine XRes_fn (by rfl) (sf_bws (o := 0) (q := 1) (l := x) (by rfl) hpz (by rfl) (by decide) (by omega) y (by omega)) ?_
      rintro r H1 ⟨rfl, rfl⟩
      (simp only [putL, List.set_cons_succ, List.set_cons_zero])
      (refine Wk.o ?_; (repeat revert hK K); refine Wce1ea ?_; (repeat intro K hK); refine ⟨?_⟩)
      refine XRes_fn (by rfl) (sf_blen (o := 0) (by rfl)) ?_
      rintro r H1 ⟨rfl, rfl⟩
      (simp only [putL, List.set_cons_succ, List.set_cons_zero])
      (refine Wk.o ?_; (repeat revert hK K); refine Wce1ea ?_; (repeat intro K hK); refine ⟨?_⟩)
      exact whx_ren [0, 3] (k + 1, x ++ y, true) ⟨by omega, hst.symm⟩ (by (first | omega | (dsimp only; omega) | (simp only; omega))) rfl (by decide) (by decide) (by (simp (disch := omega) only [go_sem, lint, pz , iInts, List.length_append, hs1, hs2, hs3, hs4, hs5, hs6, hs7, hs8, u8C_len, List.length_set, ba_app, ba_size, stG_0, stG_1, stG_2, stG_3, Int.toNat_zero, Int.toNat_one, Int.reduceToNat, Nat.zero_add, Int.toNat_natCast, List.length_cons, List.length_nil, Nat.reduceAdd])) (by (simp (disch := omega) only [go_sem, lint, pz , iInts, List.length_append, hs1, hs2, hs3, hs4, hs5, hs6, hs7, hs8, u8C_len, List.length_set, ba_app, ba_size, stG_0, stG_1, stG_2, stG_3, Int.toNat_zero, Int.toNat_one, Int.reduceToNat, Nat.zero_add, Int.toNat_natCast, List.length_cons, List.length_nil, Nat.reduceAdd])) (by (simp (disch := omega) only [go_sem, lint, pz , iInts, List.length_append, hs1, hs2, hs3, hs4, hs5, hs6, hs7, hs8, u8C_len, List.length_set, ba_app, ba_size, stG_0, stG_1, stG_2, stG_3, Int.toNat_zero, Int.toNat_one, Int.reduceToNat, Nat.zero_add, Int.toNat_natCast, List.length_cons, List.length_nil, Nat.reduceAdd])) (fun d => by first | ((simp (disch := omega) only [go_sem, lint, pz , iInts, List.length_append, hs1, hs2, hs3, hs4, hs5, hs6, hs7, hs8, u8C_len, List.length_set, ba_app, ba_size, stG_0, stG_1, stG_2, stG_3, Int.toNat_zero, Int.toNat_one, Int.reduceToNat, Nat.zero_add, Int.toNat_natCast, List.length_cons, List.length_nil, Nat.reduceAdd]); done) | ((simp (disch := omega) only [go_sem, lint, pz , iInts, List.length_append, hs1, hs2, hs3, hs4, hs5, hs6, hs7, hs8, u8C_len, List.length_set, ba_app, ba_size, stG_0, stG_1, stG_2, stG_3, Int.toNat_zero, Int.toNat_one, Int.reduceToNat, Nat.zero_add, Int.toNat_natCast, List.length_cons, List.length_nil, Nat.reduceAdd]); rfl))
    · have hs4 : ((stAt xs k).k == 2) = false := by simpa using hk2
      have hcl := pf_added (stAt xs k) hok hk2
      unfold iInts at hcl
      generalize stB (stAt xs k) = y at *
      have hs5 : decide ((1000000 : Int) < ((x.length : Int) + (y.length : Int))) = false := decide_eq_false (by omega)
      (refine Wk.o ?_; (repeat revert hK K); refine Wce1ea ?_; (repeat intro K hK); refine ⟨?_⟩)
      refine XRes_fn (by rfl) (sf_bws (o := 0) (q := 1) (l := x) (by rfl) hpz (by rfl) (by decide) (by omega) y (by omega)) ?_
      rintro r H1 ⟨rfl, rfl⟩
      (simp only [putL, List.set_cons_succ, List.set_cons_zero])
      (refine Wk.o ?_; (repeat revert hK K); refine Wce1ea ?_; (repeat intro K hK); refine ⟨?_⟩)
      refine XRes_fn (by rfl) (sf_blen (o := 0) (by rfl)) ?_
      rintro r H1 ⟨rfl, rfl⟩
      (simp only [putL, List.set_cons_succ, List.set_cons_zero])
      (refine Wk.o ?_; (repeat revert hK K); refine Wce1ea ?_; (repeat intro K hK); refine ⟨?_⟩)
      exact whx_ren [0, 3] (k + 1, x ++ y, true) ⟨by omega, hst.symm⟩ (by (first | omega | (dsimp only; omega) | (simp only; omega))) rfl (by decide) (by decide) (by (simp (disch := omega) only [go_sem, lint, pz , iInts, List.length_append, hs1, hs2, hs3, hs4, hs5, hs6, hs7, hs8, u8C_len, List.length_set, ba_app, ba_size, stG_0, stG_1, stG_2, stG_3, Int.toNat_zero, Int.toNat_one, Int.reduceToNat, Nat.zero_add, Int.toNat_natCast, List.length_cons, List.length_nil, Nat.reduceAdd])) (by (simp (disch := omega) only [go_sem, lint, pz , iInts, List.length_append, hs1, hs2, hs3, hs4, hs5, hs6, hs7, hs8, u8C_len, List.length_set, ba_app, ba_size, stG_0, stG_1, stG_2, stG_3, Int.toNat_zero, Int.toNat_one, Int.reduceToNat, Nat.zero_add, Int.toNat_natCast, List.length_cons, List.length_nil, Nat.reduceAdd])) (by (simp (disch := omega) only [go_sem, lint, pz , iInts, List.length_append, hs1, hs2, hs3, hs4, hs5, hs6, hs7, hs8, u8C_len, List.length_set, ba_app, ba_size, stG_0, stG_1, stG_2, stG_3, Int.toNat_zero, Int.toNat_one, Int.reduceToNat, Nat.zero_add, Int.toNat_natCast, List.length_cons, List.length_nil, Nat.reduceAdd])) (fun d => by first | ((simp (disch := omega) only [go_sem, lint, pz , iInts, List.length_append, hs1, hs2, hs3, hs4, hs5, hs6, hs7, hs8, u8C_len, List.length_set, ba_app, ba_size, stG_0, stG_1, stG_2, stG_3, Int.toNat_zero, Int.toNat_one, Int.reduceToNat, Nat.zero_add, Int.toNat_natCast, List.length_cons, List.length_nil, Nat.reduceAdd]); done) | ((simp (disch := omega) only [go_sem, lint, pz , iInts, List.length_append, hs1, hs2, hs3, hs4, hs5, hs6, hs7, hs8, u8C_len, List.length_set, ba_app, ba_size, stG_0, stG_1, stG_2, stG_3, Int.toNat_zero, Int.toNat_one, Int.reduceToNat, Nat.zero_add, Int.toNat_natCast, List.length_cons, List.length_nil, Nat.reduceAdd]); rfl))
  · obtain rfl : k = xs.length := by omega
    rw [List.take_length] at hx0
    have hs2 : decide ((xs.length : Int) < (xs.length : Int)) = false := decide_eq_false (by omega)
    (refine Wk.o ?_; (repeat revert hK K); refine Wce1ea ?_; (repeat intro K hK); refine ⟨?_⟩)
    refine XRes_fn (by rfl) (sf_bstr (o := 0) (q := 1) (l := x) (by rfl) (by rfl) (by rw [hx0]; exact pfB_ne h0) (by rw [hx0]; omega)) ?_
    rintro r H1 ⟨rfl, rfl⟩
    (simp only [putL, List.set_cons_succ, List.set_cons_zero])
    (refine Wk.o ?_; (repeat revert hK K); refine Wce1ea ?_; (repeat intro K hK); refine ⟨?_⟩)
    (simp only [bodyX]; refine ⟨_, by simp only [aresults, aresult, XS.as, Tryd.results14, aload, go_sem, Option.bind_some]; rfl, ?_⟩)
    exact ⟨ids_idB rfl, by rw [← hx0]; rfl, trivial⟩
theorem pf_prPrint (xs : List Stp) (hx : StLen xs) (hb : ckE xs = 0 → (pfB xs).length ≤ 1000000) : PF Tryd.prog 14 [.iv (iSts xs)] fun r H' => r = .tup [lt (.string (ba (prT xs))), lt (.int .i64 (ckE xs))] ∧ H' = [] := by
  unfold prT
  by_cases he : ckE xs = 0
  · rw [if_pos he, he]
    by_cases h0 : xs = []
    · subst h0; exact pf_prPrint0
    · exact pf_prPrint1 xs hx h0 (ckE_zero.1 he) (hb he)
  · rw [if_neg he]; exact pf_prPrintNo xs hx he
def nsB (L : List Int) : List UInt8 := L.flatMap (fun x => itoa x ++ [32]) ++ [48]
end Go.Proofs.YtghdacijcnmhlaaDoor
namespace Go.Proofs.YtghdacijcnmhlaaDoor
theorem setN_keep : ∀ {ds : List Nat} {H : AHeap} {o : Nat}, o ∉ ds → (setN ds H)[o]? = H[o]?
  | [], _, _, _ => rfl
  | d :: ds, H, o, h => by
    show (setN ds (H.set d none))[o]? = _
    rw [setN_keep (fun h2 => h (List.mem_cons_of_mem _ h2)), List.getElem?_set_ne (fun e => h (by rw [e]; exact List.mem_cons_self))]
theorem Inv.recell2 {G : Gh} {H : AHeap} {w : World} (h : Inv G H w) {o : Nat} {x : AObj} (ho : H[o]? = some (some x)) (hne : x.cells ≠ []) (xs : List AV) (hl : xs.length = x.cells.length) (h1 : xs.all AV.one = true) (hx : ∀ cs : Array Value, w.heap[(G.mu o).1]? = some (.cells cs x.t (0, 0)) → RL H.length G xs ((cs.toList.drop (G.mu o).2).take x.cells.length)) : Inv G (H.set o (some ⟨x.t, xs⟩)) w := by
  have holt : o < H.length := (List.getElem?_eq_some_iff.1 ho).1
  have hlen : (H.set o (some ⟨x.t, xs⟩)).length = H.length := List.length_set
  have back : ∀ q z, (H.set o (some ⟨x.t, xs⟩))[q]? = some (some z) → ∃ z', H[q]? = some (some z') := fun q z hq => by
    by_cases hq2 : q = o
    · subst hq2; exact ⟨x, ho⟩
    · rw [List.getElem?_set_ne (Ne.symm hq2)] at hq; exact ⟨z, hq⟩
  refine ⟨h.os, h.tape, h.output, h.fz, h.kp, fun q hq => by rw [hlen]; exact h.dom q hq, fun q z e => by obtain ⟨z', hz'⟩ := back q z e; exact h.live q z' hz', fun o' y e => ?_, fun o1 o2 y y' e e' hne' => by
    obtain ⟨z, hz⟩ := back o1 y e
    obtain ⟨z', hz'⟩ := back o2 y' e'
    exact h.inj o1 o2 z z' hz hz' hne'⟩
  rw [hlen]
  by_cases hoo : o' = o
  · subst hoo
    rw [List.getElem?_set_self holt] at e
    simp only [Option.some.injEq] at e; subst e
    obtain ⟨k0, cs, k1, k2, k3, k4, k5, k6⟩ := h.real ho hne
    exact .inr ⟨k0, cs, k1, k2, by rw [hl]; exact hx _ k1, h1, k5, k6⟩
  · rw [List.getElem?_set_ne (Ne.symm hoo)] at e
    exact h.obj o' y e
theorem Leads.frzAt {m : Nat} {s : AS} {S : AS → Prop} (ds : List Nat) (o j : Nat) (xo : AObj) (x y : AV) (ho : s.H[o]? = some (some xo)) (hod : o ∉ ds) (hj : xo.cells[j]? = some x) (hf : FrzV (onlyH ds s.H) x y) (hy : AV.one y = true) (h : S ⟨s.fr, (setN ds s.H).set o (some ⟨xo.t, xo.cells.set j y⟩)⟩) : Leads m s S := fun G a w hm hr => by
  obtain ⟨h1, h2, hi⟩ := hr
  have hjl := (List.getElem?_eq_some_iff.1 hj).1
  have hne : xo.cells ≠ [] := fun e => by rw [e] at hjl; simp at hjl
  obtain ⟨fz, k1, k2, k3, k4⟩ := hi.freeze ds
  have hH1 : (setN ds s.H)[o]? = some (some xo) := by rw [setN_keep hod]; exact ho
  obtain ⟨c0, cs, c1, c2, c3, c4, c5, c6⟩ := (hi.obj o xo ho).resolve_left fun e => hne e.1
  have hle : Gh.le s.H.length G { G with fz := fz, bs := baseOk_up k1 G.bs } := ⟨fun _ _ => rfl, fun _ _ => rfl, fun _ h => h, fun _ _ h => h, k1, fun _ _ e => e, k2, rfl, rfl, rfl⟩
  refine ⟨{ G with fz := fz, bs := baseOk_up k1 G.bs }, _, hle.leb hm, by show m ≤ ((setN ds s.H).set _ _).length; rw [List.length_set, setN_len]; exact hm, ⟨h1, ?_, ?_⟩, h⟩
  · refine ⟨h2.1, fun i z v e e' => ?_⟩
    show RA ((setN ds s.H).set _ _).length _ _ _
    rw [List.length_set, setN_len]
    exact k4 z z v (.same z) (h2.2 i z v e e')
  · refine k3.recell2 hH1 hne (xo.cells.set j y) (by simp) ?_ fun cs' e => ?_
    · rw [List.all_eq_true] at c4 ⊢
      intro z hz
      rcases List.mem_or_eq_of_mem_set hz with h5 | h5
      · exact c4 z h5
      · subst h5; exact hy
    · have e2 : w.heap[(G.mu o).1]? = some (.cells cs' xo.t (0, 0)) := e
      rw [c1] at e2
      simp only [Option.some.injEq, Obj.cells.injEq] at e2
      obtain ⟨rfl, _⟩ := e2
      refine ⟨by rw [List.length_set]; exact c3.1, fun i z v e3 e4 => ?_⟩
      show RA (setN ds s.H).length _ _ _
      rw [setN_len]
      by_cases hij : j = i
      · subst hij
        rw [List.getElem?_set_self hjl] at e3
        simp only [Option.some.injEq] at e3
        subst e3
        exact k4 x _ v hf (c3.2 j x v hj e4)
      · rw [List.getElem?_set_ne hij] at e3
        exact k4 z z v (.same z) (c3.2 i z v e3 e4)
variable {P : Program} {m : Nat} {Q : Exit → XS → Prop}
theorem AX_frzAt {fr : List AV} {H : AHeap} {M : MS} {c : Code} (ds : List Nat) (o j : Nat) (xo : AObj) (x y : AV) (ho : H[o]? = some (some xo)) (hod : o ∉ ds) (hj : xo.cells[j]? = some x) (hf : FrzV (onlyH ds H) x y) (hy : AV.one y = true) (h : AX P m c Q ⟨fr, (setN ds H).set o (some ⟨xo.t, xo.cells.set j y⟩), M⟩) : AX P m c Q ⟨fr, H, M⟩ :=
  AX_lead (S := fun s1 => s1 = ⟨fr, (setN ds H).set o (some ⟨xo.t, xo.cells.set j y⟩), M⟩) (.of (.frzAt ds o j xo x y ho hod hj hf hy rfl)) fun s' e => by rw [e]; exact h
end Go.Proofs.YtghdacijcnmhlaaDoor
namespace Go.Proofs.YtghdacijcnmhlaaDoor
open Go.RowKit Go.Lib
set_option linter.unusedVariables false
set_option linter.unusedSimpArgs false
def nn (x : Int) : Bool := decide (0 ≤ x)
def rowsOf : List Int → List (List Int)
  | [] => []
  | n :: l => (n :: l.takeWhile nn) :: rowsOf (l.dropWhile nn)
termination_by l => l.length
decreasing_by have := (List.dropWhile_sublist nn (l := l)).length_le; simp; omega
def spA (h : List Int) : List Int := h.takeWhile nn
def spR (h : List Int) : List (List Int) := rowsOf (h.dropWhile nn)
theorem rowsOf_nil : rowsOf [] = [] := by rw [rowsOf]
theorem rowsOf_cons (n : Int) (l : List Int) : rowsOf (n :: l) = (n :: l.takeWhile nn) :: rowsOf (l.dropWhile nn) := by rw [rowsOf]
theorem dropD10 {h : List Int} {i : Nat} (hi : i < h.length) : h.drop i = h.getD i 0 :: h.drop (i + 1) := by
  rw [List.drop_eq_getElem_cons hi, List.getD_eq_getElem?_getD, List.getElem?_eq_getElem hi]; rfl
def SpI (h : List Int) (i : Nat) (a : List Int) (R : List (List Int)) (c : List Int) : Bool → Prop
  | false => R = [] ∧ c = [] ∧ spA h = a ++ (h.drop i).takeWhile nn ∧ spR h = rowsOf ((h.drop i).dropWhile nn)
  | true => spA h = a ∧ spR h = R ++ (c ++ (h.drop i).takeWhile nn) :: rowsOf ((h.drop i).dropWhile nn)
theorem SpI.negF {h : List Int} {i : Nat} {a : List Int} {R : List (List Int)} {c : List Int} (hi : i < h.length) (hn : h.getD i 0 < 0) (hI : SpI h i a R c false) : SpI h (i + 1) a [] [h.getD i 0] true := by
  obtain ⟨h1, h2, h3, h4⟩ := hI
  have hb : nn (h.getD i 0) = false := decide_eq_false (by omega)
  rw [dropD10 hi, List.takeWhile_cons, if_neg (by rw [hb]; decide), List.append_nil] at h3
  rw [dropD10 hi, List.dropWhile_cons, if_neg (by rw [hb]; decide), rowsOf_cons] at h4
  exact ⟨h3, by rw [h4]; rfl⟩
theorem SpI.negT {h : List Int} {i : Nat} {a : List Int} {R : List (List Int)} {c : List Int} (hi : i < h.length) (hn : h.getD i 0 < 0) (hI : SpI h i a R c true) : SpI h (i + 1) a (R ++ [c]) [h.getD i 0] true := by
  obtain ⟨h3, h4⟩ := hI
  have hb : nn (h.getD i 0) = false := decide_eq_false (by omega)
  rw [dropD10 hi, List.takeWhile_cons, if_neg (by rw [hb]; decide), List.append_nil, List.dropWhile_cons, if_neg (by rw [hb]; decide), rowsOf_cons] at h4
  exact ⟨h3, by rw [h4]; simp⟩
theorem SpI.posF {h : List Int} {i : Nat} {a : List Int} {R : List (List Int)} {c : List Int} (hi : i < h.length) (hn : ¬ h.getD i 0 < 0) (hI : SpI h i a R c false) : SpI h (i + 1) (a ++ [h.getD i 0]) R c false := by
  obtain ⟨h1, h2, h3, h4⟩ := hI
  have hb : nn (h.getD i 0) = true := decide_eq_true (by omega)
  rw [dropD10 hi, List.takeWhile_cons, if_pos hb] at h3
  rw [dropD10 hi, List.dropWhile_cons, if_pos hb] at h4
  exact ⟨h1, h2, by rw [h3]; simp, h4⟩
theorem SpI.posT {h : List Int} {i : Nat} {a : List Int} {R : List (List Int)} {c : List Int} (hi : i < h.length) (hn : ¬ h.getD i 0 < 0) (hI : SpI h i a R c true) : SpI h (i + 1) a R (c ++ [h.getD i 0]) true := by
  obtain ⟨h3, h4⟩ := hI
  have hb : nn (h.getD i 0) = true := decide_eq_true (by omega)
  rw [dropD10 hi, List.takeWhile_cons, if_pos hb, List.dropWhile_cons, if_pos hb] at h4
  exact ⟨h3, by rw [h4]; simp⟩
def gC (R : List (List Int)) (c : List Int) : Bool → List AV
  | false => []
  | true => R.map rwI ++ [.osl 2 0 c.length 1]
def gN (R : List (List Int)) : Bool → Nat
  | false => 0
  | true => R.length + 1
theorem at_last10 (R : List (List Int)) (x : AV) : (R.map rwI ++ [x])[R.length]? = some x := by rw [List.getElem?_append_right (by simp)]; simp
theorem set_last10 (R : List (List Int)) (x y : AV) : (R.map rwI ++ [x]).set R.length y = R.map rwI ++ [y] := by rw [List.set_append_right _ _ (by simp)]; simp
theorem snapC_last {H : AHeap} {o p : Nat} {t t2 : TypeId} {R : List (List Int)} {c : List Int} (h1 : H[o]? = some (some ⟨t, R.map rwI ++ [.osl p 0 c.length 1]⟩)) (h2 : H[p]? = some (some ⟨t2, c.map lint⟩)) : SnapC H (.osl o 0 (R.length + 1) 1) (iRows (R ++ [c])) := by
  have hl : (R ++ [c]).length = R.length + 1 := by simp
  unfold iRows
  rw [hl]
  refine .osl o 0 (R.length + 1) 1 _ _ (fun j => if j < R.length then rwI (R.getD j []) else .osl p 0 c.length 1) (by decide) h1 (fun j hj => ?_) fun j hj => ?_
  · rw [Nat.zero_add]
    by_cases hjr : j < R.length
    · rw [if_pos hjr, List.getElem?_append_left (by simpa using hjr)]; exact rwI_at hjr
    · rw [if_neg hjr, show j = R.length by omega]; exact at_last10 R _
  · by_cases hjr : j < R.length
    · rw [if_pos hjr, show (R ++ [c]).getD j [] = R.getD j [] by simp [List.getD, List.getElem?_append_left hjr]]
      exact .iv _
    · rw [if_neg hjr, show (R ++ [c]).getD j [] = c by rw [show j = R.length by omega]; simp [List.getD]]
      exact SnapC.lits (fun j => .int .i64 (c.getD j 0)) h2 fun j hj => by rw [Nat.zero_add]; exact lint_at hj
theorem snap_pr {H : AHeap} {x y x2 y2 : AV} (h1 : Snap H x x2) (h2 : Snap H y y2) : Snap H (.tup [x, y]) (.tup [x2, y2]) :=
  .tup _ _ rfl fun i u v hu hv => by
    rcases i with _ | _ | i
    · simp at hu hv; subst hu hv; exact h1
    · simp at hu hv; subst hu hv; exact h2
    · simp at hu
attribute [go_sem] rnL_app idL_app
theorem Wb0bda {A B : Prop} (h9 : B) (w : B → A := by (intro h9; (repeat intro K hK); refine ⟨?_⟩; (repeat (first | (first | (with_reducible first | refine AX_block ?_ | refine AX_skip ?_ | refine AX_exit ?_ | refine AX_ret ?_ | refine AX_ift ?_ | refine AX_iff ?_ | refine AX_seq_k (fun K hK => ?_) | refine ContX.use (by assumption) ?_) | simp only [thenX, inBlockX, if_true, if_false, reduceCtorEq]) | (first | ((with_reducible refine XOP tyOK ?_); simp (disch := omega) only [go_sem , hs1, hs2, hs3, hs4, hs5, hs6, hs7, hs8, Int.toNat_zero, Int.toNat_one, Int.reduceToNat, Nat.zero_add, Int.toNat_natCast, List.length_map, Nat.reduceEqDiff, List.length_append, List.length_singleton, List.length_cons, List.length_nil, gC, gN, at_last10, set_last10, List.map_nil, List.nil_append]; (with_reducible refine XRes_id ?_)) | (with_reducible refine XSK ?_)) | ((with_reducible refine XRes_nil ?_); refine hK _ ?_; clear hK K) | ((with_reducible refine AX_reg0 fun K hK => ?_); simp only [go_sem]))); refine Wk.o ?_; (repeat revert hK K); exact h9)) : A := w h9
set_option maxRecDepth 100000 in
set_option maxHeartbeats 4000000 in
theorem pf_prSplit (h : List Int) (hl : h.length ≤ 1000000) : PF Tryd.prog 16 [.iv (iInts h)] fun r H' => r = .tup [.iv (iInts (spA h)), .iv (iRows (spR h))] ∧ H' = [] := by
  refine SF.frozen ?_
  have hs1 := trivial; have hs2 := trivial; have hs3 := trivial; have hs4 := trivial; have hs5 := trivial; have hs6 := trivial; have hs7 := trivial; have hs8 := trivial
  unfold iInts
  (refine SF_of_bodyX (aload tt) (aload_ok tyOK) Tryd.func16 rfl (by kernel_rfl) ?_; simp only [Tryd.ntmps16, List.length_cons, List.length_nil, Nat.reduceAdd, Nat.reduceSub, List.replicate_succ, List.replicate_zero, List.cons_append, List.nil_append])
  (refine Wk.o ?_; (repeat revert hK K); refine Wb0bda ?_; (repeat intro K hK); refine ⟨?_⟩)
  refine AX_nil 2 3 1 rfl ?_
  refine AX_nil 3 31 1 rfl ?_
  refine AX_lead (S := fun s1 => s1 = ⟨_, [some ⟨3, []⟩, some ⟨31, []⟩, some ⟨3, []⟩], _⟩) (.of (.more 3 rfl)) fun s' e => ?_
  subst e
  simp only [List.set_cons_succ, List.set_cons_zero, List.length_cons, List.length_nil, List.nil_append, Nat.zero_add, Nat.reduceAdd]
  have hinit : ([] : List Int).map lint = [] := rfl
  (refine AX_wh (σ := Nat × List Int × List (List Int) × List Int × Bool) [10, 11, 12, 5, 27, 28, 26, 29, 30, 31, 32, 33, 35, 36, 37, 34, 38, 39, 40, 41, 13, 14, 15, 6, 16, 17, 18, 19, 20, 21, 22, 23, 24, 25, 42] (fun (i, a, R, c, b) => [(9, lint i), (2, .osl 0 0 a.length 1), (3, .osl 1 0 (gN R b) 1)]) (fun (i, a, R, c, b) => [some ⟨3, a.map lint⟩, some ⟨31, gC R c b⟩, some ⟨3, c.map lint⟩]) (fun (i, a, R, c, b) => []) (fun (i, a, R, c, b) => i ≤ h.length ∧ SpI h i a R c b ∧ a.length ≤ i ∧ R.length ≤ i ∧ c.length ≤ i) (fun (i, a, R, c, b) => h.length - i) (0, [], [], [], false) (fun d => by first | ((simp only [deadS, updS, List.set_cons_succ, List.set_cons_zero, lint, List.length_nil, List.length_cons]); done) | ((simp only [deadS, updS, List.set_cons_succ, List.set_cons_zero, lint, List.length_nil, List.length_cons]); rfl) | rfl) (by first | (with_reducible rfl) | (simp only [hinit]; done) | rfl) (by first | (with_reducible rfl) | rfl) (by first | exact ⟨Nat.zero_le _, ⟨rfl, rfl, rfl, rfl⟩, by simp, by simp, by simp⟩) ?_; rintro ⟨i, a, R, c, b⟩ d fr hfr ⟨hi, hI, hb1, hb2, hb3⟩; simp only [updS, deadS, List.set_cons_succ, List.set_cons_zero, lint] at hfr; subst hfr; (try dsimp only))
  by_cases hlt : i < h.length
  · have hs1 : decide ((i : Int) < (h.length : Int)) = true := decide_eq_true (by omega)
    by_cases hn : h.getD i 0 < 0
    · have hs2 : decide (h.getD i 0 < 0) = true := decide_eq_true hn
      cases b with
      | false =>
        have hI2 := hI.negF hlt hn
        obtain ⟨rfl, rfl, _, _⟩ := hI
        (refine Wk.o ?_; (repeat revert hK K); refine Wb0bda ?_; (repeat intro K hK); refine ⟨?_⟩)
        exact whx_ren [0, 5, 3] (i + 1, a, [], [h.getD i 0], true) ⟨by (dsimp only; omega), hI2, by (dsimp only; omega), by simp, by simp⟩ (by (first | omega | (dsimp only; omega) | (simp only; omega))) rfl (by decide) (by decide) (by (simp (disch := omega) only [go_sem, lint , hs1, hs2, hs3, hs4, hs5, hs6, hs7, hs8, Int.toNat_zero, Int.toNat_one, Int.reduceToNat, Nat.zero_add, Int.toNat_natCast, List.length_map, Nat.reduceEqDiff, List.length_append, List.length_singleton, List.length_cons, List.length_nil, gC, gN, at_last10, set_last10, List.map_nil, List.nil_append])) (by (simp (disch := omega) only [go_sem, lint , hs1, hs2, hs3, hs4, hs5, hs6, hs7, hs8, Int.toNat_zero, Int.toNat_one, Int.reduceToNat, Nat.zero_add, Int.toNat_natCast, List.length_map, Nat.reduceEqDiff, List.length_append, List.length_singleton, List.length_cons, List.length_nil, gC, gN, at_last10, set_last10, List.map_nil, List.nil_append])) (by (simp (disch := omega) only [go_sem, lint , hs1, hs2, hs3, hs4, hs5, hs6, hs7, hs8, Int.toNat_zero, Int.toNat_one, Int.reduceToNat, Nat.zero_add, Int.toNat_natCast, List.length_map, Nat.reduceEqDiff, List.length_append, List.length_singleton, List.length_cons, List.length_nil, gC, gN, at_last10, set_last10, List.map_nil, List.nil_append])) (fun d => by first | ((simp (disch := omega) only [go_sem, lint , hs1, hs2, hs3, hs4, hs5, hs6, hs7, hs8, Int.toNat_zero, Int.toNat_one, Int.reduceToNat, Nat.zero_add, Int.toNat_natCast, List.length_map, Nat.reduceEqDiff, List.length_append, List.length_singleton, List.length_cons, List.length_nil, gC, gN, at_last10, set_last10, List.map_nil, List.nil_append]); done) | ((simp (disch := omega) only [go_sem, lint , hs1, hs2, hs3, hs4, hs5, hs6, hs7, hs8, Int.toNat_zero, Int.toNat_one, Int.reduceToNat, Nat.zero_add, Int.toNat_natCast, List.length_map, Nat.reduceEqDiff, List.length_append, List.length_singleton, List.length_cons, List.length_nil, gC, gN, at_last10, set_last10, List.map_nil, List.nil_append]); rfl))
      | true =>
        have hI2 := hI.negT hlt hn
        have hs3 := rwI_snoc R c
        simp only [gC, gN]
        refine AX_frzAt [2] 1 R.length _ _ (.iv (iInts c)) rfl (by decide) (at_last10 R _) (frz_ints (only_mk (by decide) rfl) rfl) rfl ?_
        simp only [setN, List.set_cons_succ, List.set_cons_zero, set_last10, rwI_snoc]
        (refine Wk.o ?_; (repeat revert hK K); refine Wb0bda ?_; (repeat intro K hK); refine ⟨?_⟩)
        exact whx_ren [0, 5, 3] (i + 1, a, R ++ [c], [h.getD i 0], true) ⟨by (dsimp only; omega), hI2, by (dsimp only; omega), by (dsimp only; rw [List.length_append, List.length_singleton]; omega), by simp⟩ (by (first | omega | (dsimp only; omega) | (simp only; omega))) rfl (by decide) (by decide) (by (simp (disch := omega) only [go_sem, lint , hs1, hs2, hs3, hs4, hs5, hs6, hs7, hs8, Int.toNat_zero, Int.toNat_one, Int.reduceToNat, Nat.zero_add, Int.toNat_natCast, List.length_map, Nat.reduceEqDiff, List.length_append, List.length_singleton, List.length_cons, List.length_nil, gC, gN, at_last10, set_last10, List.map_nil, List.nil_append])) (by (simp (disch := omega) only [go_sem, lint , hs1, hs2, hs3, hs4, hs5, hs6, hs7, hs8, Int.toNat_zero, Int.toNat_one, Int.reduceToNat, Nat.zero_add, Int.toNat_natCast, List.length_map, Nat.reduceEqDiff, List.length_append, List.length_singleton, List.length_cons, List.length_nil, gC, gN, at_last10, set_last10, List.map_nil, List.nil_append])) (by (simp (disch := omega) only [go_sem, lint , hs1, hs2, hs3, hs4, hs5, hs6, hs7, hs8, Int.toNat_zero, Int.toNat_one, Int.reduceToNat, Nat.zero_add, Int.toNat_natCast, List.length_map, Nat.reduceEqDiff, List.length_append, List.length_singleton, List.length_cons, List.length_nil, gC, gN, at_last10, set_last10, List.map_nil, List.nil_append])) (fun d => by first | ((simp (disch := omega) only [go_sem, lint , hs1, hs2, hs3, hs4, hs5, hs6, hs7, hs8, Int.toNat_zero, Int.toNat_one, Int.reduceToNat, Nat.zero_add, Int.toNat_natCast, List.length_map, Nat.reduceEqDiff, List.length_append, List.length_singleton, List.length_cons, List.length_nil, gC, gN, at_last10, set_last10, List.map_nil, List.nil_append]); done) | ((simp (disch := omega) only [go_sem, lint , hs1, hs2, hs3, hs4, hs5, hs6, hs7, hs8, Int.toNat_zero, Int.toNat_one, Int.reduceToNat, Nat.zero_add, Int.toNat_natCast, List.length_map, Nat.reduceEqDiff, List.length_append, List.length_singleton, List.length_cons, List.length_nil, gC, gN, at_last10, set_last10, List.map_nil, List.nil_append]); rfl))
    · have hs2 : decide (h.getD i 0 < 0) = false := decide_eq_false hn
      cases b with
      | false =>
        have hI2 := hI.posF hlt hn
        (refine Wk.o ?_; (repeat revert hK K); refine Wb0bda ?_; (repeat intro K hK); refine ⟨?_⟩)
        exact whx_ren [4, 1, 2] (i + 1, a ++ [h.getD i 0], R, c, false) ⟨by (dsimp only; omega), hI2, by (dsimp only; rw [List.length_append, List.length_singleton]; omega), by (dsimp only; omega), by (dsimp only; omega)⟩ (by (first | omega | (dsimp only; omega) | (simp only; omega))) rfl (by decide) (by decide) (by (simp (disch := omega) only [go_sem, lint , hs1, hs2, hs3, hs4, hs5, hs6, hs7, hs8, Int.toNat_zero, Int.toNat_one, Int.reduceToNat, Nat.zero_add, Int.toNat_natCast, List.length_map, Nat.reduceEqDiff, List.length_append, List.length_singleton, List.length_cons, List.length_nil, gC, gN, at_last10, set_last10, List.map_nil, List.nil_append])) (by (simp (disch := omega) only [go_sem, lint , hs1, hs2, hs3, hs4, hs5, hs6, hs7, hs8, Int.toNat_zero, Int.toNat_one, Int.reduceToNat, Nat.zero_add, Int.toNat_natCast, List.length_map, Nat.reduceEqDiff, List.length_append, List.length_singleton, List.length_cons, List.length_nil, gC, gN, at_last10, set_last10, List.map_nil, List.nil_append])) (by (simp (disch := omega) only [go_sem, lint , hs1, hs2, hs3, hs4, hs5, hs6, hs7, hs8, Int.toNat_zero, Int.toNat_one, Int.reduceToNat, Nat.zero_add, Int.toNat_natCast, List.length_map, Nat.reduceEqDiff, List.length_append, List.length_singleton, List.length_cons, List.length_nil, gC, gN, at_last10, set_last10, List.map_nil, List.nil_append])) (fun d => by first | ((simp (disch := omega) only [go_sem, lint , hs1, hs2, hs3, hs4, hs5, hs6, hs7, hs8, Int.toNat_zero, Int.toNat_one, Int.reduceToNat, Nat.zero_add, Int.toNat_natCast, List.length_map, Nat.reduceEqDiff, List.length_append, List.length_singleton, List.length_cons, List.length_nil, gC, gN, at_last10, set_last10, List.map_nil, List.nil_append]); done) | ((simp (disch := omega) only [go_sem, lint , hs1, hs2, hs3, hs4, hs5, hs6, hs7, hs8, Int.toNat_zero, Int.toNat_one, Int.reduceToNat, Nat.zero_add, Int.toNat_natCast, List.length_map, Nat.reduceEqDiff, List.length_append, List.length_singleton, List.length_cons, List.length_nil, gC, gN, at_last10, set_last10, List.map_nil, List.nil_append]); rfl))
      | true =>
        have hI2 := hI.posT hlt hn
        have hs3 : (((R.length : Int) + 1) == 0) = false := by rw [beq_eq_false_iff_ne]; omega
        have hs4 : (((R.length + 1 : Nat) : Int) - 1) = (R.length : Int) := by omega
        (refine Wk.o ?_; (repeat revert hK K); refine Wb0bda ?_; (repeat intro K hK); refine ⟨?_⟩)
        exact whx_ren [0, 1, 4] (i + 1, a, R, c ++ [h.getD i 0], true) ⟨by (dsimp only; omega), hI2, by (dsimp only; omega), by (dsimp only; omega), by (dsimp only; rw [List.length_append, List.length_singleton]; omega)⟩ (by (first | omega | (dsimp only; omega) | (simp only; omega))) rfl (by decide) (by decide) (by (simp (disch := omega) only [go_sem, lint , hs1, hs2, hs3, hs4, hs5, hs6, hs7, hs8, Int.toNat_zero, Int.toNat_one, Int.reduceToNat, Nat.zero_add, Int.toNat_natCast, List.length_map, Nat.reduceEqDiff, List.length_append, List.length_singleton, List.length_cons, List.length_nil, gC, gN, at_last10, set_last10, List.map_nil, List.nil_append])) (by (simp (disch := omega) only [go_sem, lint , hs1, hs2, hs3, hs4, hs5, hs6, hs7, hs8, Int.toNat_zero, Int.toNat_one, Int.reduceToNat, Nat.zero_add, Int.toNat_natCast, List.length_map, Nat.reduceEqDiff, List.length_append, List.length_singleton, List.length_cons, List.length_nil, gC, gN, at_last10, set_last10, List.map_nil, List.nil_append])) (by (simp (disch := omega) only [go_sem, lint , hs1, hs2, hs3, hs4, hs5, hs6, hs7, hs8, Int.toNat_zero, Int.toNat_one, Int.reduceToNat, Nat.zero_add, Int.toNat_natCast, List.length_map, Nat.reduceEqDiff, List.length_append, List.length_singleton, List.length_cons, List.length_nil, gC, gN, at_last10, set_last10, List.map_nil, List.nil_append])) (fun d => by first | ((simp (disch := omega) only [go_sem, lint , hs1, hs2, hs3, hs4, hs5, hs6, hs7, hs8, Int.toNat_zero, Int.toNat_one, Int.reduceToNat, Nat.zero_add, Int.toNat_natCast, List.length_map, Nat.reduceEqDiff, List.length_append, List.length_singleton, List.length_cons, List.length_nil, gC, gN, at_last10, set_last10, List.map_nil, List.nil_append]); done) | ((simp (disch := omega) only [go_sem, lint , hs1, hs2, hs3, hs4, hs5, hs6, hs7, hs8, Int.toNat_zero, Int.toNat_one, Int.reduceToNat, Nat.zero_add, Int.toNat_natCast, List.length_map, Nat.reduceEqDiff, List.length_append, List.length_singleton, List.length_cons, List.length_nil, gC, gN, at_last10, set_last10, List.map_nil, List.nil_append]); rfl))
  · obtain rfl : i = h.length := by omega
    have hs1 : decide ((h.length : Int) < (h.length : Int)) = false := decide_eq_false (by omega)
    cases b with
    | false =>
      obtain ⟨rfl, rfl, h3, h4⟩ := hI
      rw [List.drop_length] at h3 h4
      (refine Wk.o ?_; (repeat revert hK K); refine Wb0bda ?_; (repeat intro K hK); refine ⟨?_⟩)
      (simp only [bodyX]; refine ⟨_, by simp only [aresults, aresult, XS.as, Tryd.results16, aload, go_sem, Option.bind_some]; rfl, ?_⟩)
      exact ⟨_, snap_pr (snap_i (xs := a) rfl rfl) (.iv _ _ (snapC_rwI (R := []) rfl)), by
        rw [h3, h4, List.takeWhile_nil, List.dropWhile_nil, rowsOf_nil]
        simp only [List.append_nil]
        rfl, trivial⟩
    | true =>
      obtain ⟨h3, h4⟩ := hI
      rw [List.drop_length] at h4
      (refine Wk.o ?_; (repeat revert hK K); refine Wb0bda ?_; (repeat intro K hK); refine ⟨?_⟩)
      (simp only [bodyX]; refine ⟨_, by simp only [aresults, aresult, XS.as, Tryd.results16, aload, go_sem, Option.bind_some]; rfl, ?_⟩)
      exact ⟨_, snap_pr (snap_i (xs := a) rfl rfl) (.iv _ _ (snapC_last (R := R) (c := c) rfl rfl)), by
        rw [h3, h4, List.takeWhile_nil, List.dropWhile_nil, rowsOf_nil]
        simp only [List.append_nil]
        rfl, trivial⟩
end Go.Proofs.YtghdacijcnmhlaaDoor
namespace Go.Proofs.YtghdacijcnmhlaaDoor
open Go.RowKit Go.Lib
set_option linter.unusedVariables false
set_option linter.unusedSimpArgs false
end Go.Proofs.YtghdacijcnmhlaaDoor
