import Derived.Test.YtghdacijcnmhlaaDoorMgBJ
import Derived.Test.YtghdacijcnmhlaaDoorMgAW
import Derived.Test.YtghdacijcnmhlaaDoorMgBA
import Derived.Test.YtghdacijcnmhlaaDoorMgBE
import Derived.Test.YtghdacijcnmhlaaDoorMgBB
namespace Go.Proofs.YtghdacijcnmhlaaDoor
open Go.RowKit Go.Lib
set_option linter.unusedVariables false
set_option linter.unusedSimpArgs false
def ckB (xs : List Stp) : Nat := xs.findIdx fun s => !decide (stOk s)
def ckE (xs : List Stp) : Int := if ckB xs < xs.length then 2 else 0
theorem stAt_get {xs : List Stp} {k : Nat} (h : k < xs.length) : stAt xs k = xs[k] := by unfold stAt; simp [List.getD, h]
theorem ckB_at {xs : List Stp} {k : Nat} (h : k < xs.length) (hj : ∀ j, j < k → stOk (stAt xs j)) (hb : ¬ stOk (stAt xs k)) : ckB xs = k := by
  unfold ckB
  rw [List.findIdx_eq h]
  refine ⟨by rw [← stAt_get h]; simpa using hb, fun j hjk => ?_⟩
  have := hj j hjk
  rw [stAt_get (by omega)] at this
  simpa using this
theorem ckB_all {xs : List Stp} (hj : ∀ j, j < xs.length → stOk (stAt xs j)) : ckB xs = xs.length := by
  unfold ckB
  rw [List.findIdx_eq_length]
  intro s hs
  obtain ⟨j, h, rfl⟩ := List.mem_iff_getElem.1 hs
  have := hj j h
  rw [stAt_get h] at this
  simpa using this
theorem ckE_zero {xs : List Stp} : ckE xs = 0 ↔ ∀ s ∈ xs, stOk s := by
  unfold ckE
  by_cases h : ckB xs < xs.length
  · rw [if_pos h]
    refine ⟨(fun h => by cases h), fun h2 => ?_⟩
    have h3 := List.findIdx_getElem (p := fun s => !decide (stOk s)) (w := h)
    have h4 := h2 _ (List.getElem_mem h)
    have h5 : (!decide (stOk xs[ckB xs])) = true := h3
    simp [h4] at h5
  · rw [if_neg h]
    refine ⟨fun _ s hs => ?_, fun _ => rfl⟩
    have h3 : ckB xs = xs.length := by have := List.findIdx_le_length (xs := xs) (p := fun s => !decide (stOk s)); unfold ckB at *; omega
    have h4 := (List.findIdx_eq_length (xs := xs) (p := fun s => !decide (stOk s))).1 h3 s hs
    simpa using h4
theorem ck_ok {xs : List Stp} (h : ∀ s ∈ xs, stOk s) : ckB xs = xs.length ∧ ckE xs = 0 := by
  refine ⟨ckB_all fun j hj => ?_, ckE_zero.2 h⟩
  rw [stAt_get hj]; exact h _ (List.getElem_mem hj)
theorem We845a {A B : Prop} (h9 : B) (w : B → A := by (intro h9; (repeat intro K hK); refine ⟨?_⟩; (repeat (first | (first | (with_reducible first | refine AX_block ?_ | refine AX_skip ?_ | refine AX_exit ?_ | refine AX_ret ?_ | refine AX_ift ?_ | refine AX_iff ?_ | refine AX_seq_k (fun K hK => ?_) | refine ContX.use (by assumption) ?_) | simp only [thenX, inBlockX, if_true, if_false, reduceCtorEq]) | (first | ((first | (with_reducible refine XRes_op tyOK ?_ ?_) | ((with_reducible first | refine ADF_op tyOK ?_ ?_ ?_ | refine ADX_op tyOK ?_ ?_ ?_); (focus rfl)) | (with_reducible refine ADR_alloc1 tyOK ?_ ?_) | ((with_reducible refine ADR_free1 tyOK ?_ ?_ ?_); (focus rfl)) | ((with_reducible refine ADR_free0 tyOK ?_ ?_ ?_); (focus rfl)) | ((with_reducible refine ADR_read1 tyOK ?_ ?_ ?_); (focus rfl)) | (with_reducible refine ADR_chg1 tyOK ?_ ?_)); (focus (first | (with_reducible rfl) | ((simp (disch := omega) only [go_sem]); done))); simp (disch := omega) only [go_sem , iInts, hs1, hs2, hs3, hs4, hs5, hs6, hs7, hs8, hs9, stG_0, stG_1, stG_2, stG_3, Int.toNat_zero, Int.toNat_one, Int.reduceToNat, Nat.zero_add, Int.toNat_natCast, List.length_nil]; (first | (with_reducible refine XRes_id ?_) | (with_reducible refine ADF_id ?_) | (with_reducible refine ADR_id1 ?_) | (with_reducible refine ADX_id ?_))) | ((first | (with_reducible refine XRes_skip ?_ ?_) | (with_reducible refine ADF_skip (b := true) ?_ ?_) | (with_reducible refine ADX_skip ?_ ?_) | ((with_reducible refine ADR_skip1 ?_ ?_ ?_); (focus rfl))); (focus (first | rfl | ((simp (disch := omega) only [go_sem]); done))); (simp only [putL, List.set_cons_succ, List.set_cons_zero]))) | ((first | (with_reducible refine XRes_nil ?_) | (with_reducible refine ADF_nil ?_) | (with_reducible refine ADR_nil ?_) | (with_reducible refine ADX_nil ?_)); (first | refine hK _ ?_ | refine hK _ _ ?_); clear hK K) | (first | (first | refine XTL (by rfl) hC1 ?_ | refine ATL tyOK (by rfl) hC1 ?_ | refine XTL (by rfl) hC2 ?_ | refine ATL tyOK (by rfl) hC2 ?_ | refine XTL (by rfl) hC3 ?_ | refine ATL tyOK (by rfl) hC3 ?_)) | ((with_reducible refine AX_reg0 fun K hK => ?_); simp only [go_sem]))); refine Wk.o ?_; (repeat revert hK K); exact h9)) : A := w h9
set_option maxRecDepth 100000 in
set_option maxHeartbeats 8000000 in
theorem pf_prCheck (xs : List Stp) (hx : StLen xs) : PF Tryd.prog 12 [.iv (iSts xs)] fun r H' => r = .tup [lt (.int .i64 (ckB xs : Int)), lt (.int .i64 (ckE xs))] ∧ H' = [] := by
  refine SF.forgetAll ?_
  have hs1 := trivial; have hs2 := trivial; have hs3 := trivial; have hs4 := trivial; have hs5 := trivial; have hs6 := trivial; have hs7 := trivial; have hs8 := trivial; have hs9 := trivial; have hC1 := trivial; have hC2 := trivial; have hC3 := trivial
  have hxl := hx.len
  have hs1 : decide ((1000000 : Int) < (xs.length : Int)) = false := decide_eq_false (by omega)
  unfold iSts
  (refine SF_of_bodyX (aload tt) (aload_ok tyOK) Tryd.func12 rfl (by kernel_rfl) ?_; simp only [Tryd.ntmps12, List.length_cons, List.length_nil, Nat.reduceAdd, Nat.reduceSub, List.replicate_succ, List.replicate_zero, List.cons_append, List.nil_append])
  (refine Wk.o ?_; (repeat revert hK K); refine We845a ?_; (repeat intro K hK); refine ⟨?_⟩)
  (refine AWH (σ := Nat) [12, 13, 14, 15, 5, 4, 16, 17, 18, 19, 2, 3, 20] (fun k => [(11, lint k)]) (fun k => []) (fun k => []) (fun k => k ≤ xs.length ∧ ∀ j, j < k → stOk (stAt xs j)) (fun k => xs.length - k) 0 (by first | exact ⟨Nat.zero_le _, fun j h => absurd h (by omega)⟩) ?_; rintro k d fr hfr ⟨hk, hj⟩; simp only [updS, deadS, List.set_cons_succ, List.set_cons_zero, lint] at hfr; subst hfr; (try dsimp only))
  by_cases hlt : k < xs.length
  · have hs3 : decide ((k : Int) < (xs.length : Int)) = true := decide_eq_true (by omega)
    have hC1 := pf_may (stAt xs k) (hx.row k).1 (hx.row k).2
    unfold iInts at hC1
    by_cases ho : stOk (stAt xs k)
    · rw [decide_eq_true ho] at hC1
      (refine Wk.o ?_; (repeat revert hK K); refine We845a ?_; (repeat intro K hK); refine ⟨?_⟩)
      exact whx_ren [] (k + 1) ⟨by omega, fun j h => by
        rcases Nat.lt_or_ge j k with h1 | h1
        · exact hj j h1
        · rw [show j = k by omega]; exact ho⟩ (by (first | omega | (dsimp only; omega) | (simp only; omega))) rfl (by decide) (by decide) (by (simp (disch := omega) only [go_sem, lint, Nat.reduceEqDiff, List.length_map])) (by (simp (disch := omega) only [go_sem, lint, Nat.reduceEqDiff, List.length_map])) (by (simp (disch := omega) only [go_sem, lint, Nat.reduceEqDiff, List.length_map])) (fun d => by first | ((simp (disch := omega) only [go_sem, lint, Nat.reduceEqDiff, List.length_map]); done) | ((simp (disch := omega) only [go_sem, lint, Nat.reduceEqDiff, List.length_map]); rfl))
    · rw [decide_eq_false ho] at hC1
      have hb := ckB_at hlt hj ho
      have he : ckE xs = 2 := by unfold ckE; rw [hb, if_pos hlt]
      (refine Wk.o ?_; (repeat revert hK K); refine We845a ?_; (repeat intro K hK); refine ⟨?_⟩)
      (simp only [bodyX]; refine ⟨_, by simp only [aresults, aresult, XS.as, Tryd.results12, aload, go_sem, Option.bind_some]; rfl, ?_⟩)
      exact ⟨ids_idB rfl, by rw [hb, he], trivial⟩
  · obtain rfl : k = xs.length := by omega
    have hs3 : decide ((xs.length : Int) < (xs.length : Int)) = false := decide_eq_false (by omega)
    have hb := ckB_all hj
    have he : ckE xs = 0 := by unfold ckE; rw [hb, if_neg (by omega)]
    (refine Wk.o ?_; (repeat revert hK K); refine We845a ?_; (repeat intro K hK); refine ⟨?_⟩)
    (simp only [bodyX]; refine ⟨_, by simp only [aresults, aresult, XS.as, Tryd.results12, aload, go_sem, Option.bind_some]; rfl, ?_⟩)
    exact ⟨ids_idB rfl, by rw [hb, he], trivial⟩
end Go.Proofs.YtghdacijcnmhlaaDoor
namespace Go.Proofs.YtghdacijcnmhlaaDoor
open Go.RowKit Go.Lib
set_option linter.unusedVariables false
set_option linter.unusedSimpArgs false
set_option maxRecDepth 100000 in
set_option maxHeartbeats 4000000 in
theorem sf_blen {H : AHeap} {o q n : Nat} {p : AV} (ho : H[o]? = some (some ⟨bT, [p, .osl q 0 n 1]⟩)) : SF Tryd.prog 32 [.xptr o 2] H fun r H' => r = lt (.int .i64 (n : Int)) ∧ H' = H := by
  have hs1 := trivial; have hs2 := trivial; have hs3 := trivial; have hs4 := trivial; have hs5 := trivial; have hs6 := trivial; have hs7 := trivial; have hs8 := trivial; have hs9 := trivial; have hD := trivial; have hE := trivial; have hH := trivial; have hk := trivial
  have hs1 := ho
  (refine SF_of_bodyX (aload tt) (aload_ok tyOK) Tryd.func32 rfl (by kernel_rfl) ?_; simp only [Tryd.ntmps32, List.length_cons, List.length_nil, Nat.reduceAdd, Nat.reduceSub, List.replicate_succ, List.replicate_zero, List.cons_append, List.nil_append])
  (repeat (first | (first | (with_reducible first | refine AX_block ?_ | refine AX_skip ?_ | refine AX_exit ?_ | refine AX_ret ?_ | refine AX_ift ?_ | refine AX_iff ?_ | refine AX_seq_k (fun K hK => ?_) | refine ContX.use (by assumption) ?_) | simp only [thenX, inBlockX, if_true, if_false, reduceCtorEq]) | (first | ((with_reducible refine XOP tyOK ?_); simp (disch := omega) only [go_sem , hs1, hs2, hs3, hs4, hs5, hs6, hs7, hs8, hs9, Int.toNat_natCast, ba_size, u8C_len, List.length_append, List.length_set, List.length_nil, List.length_cons]; (with_reducible refine XRes_id ?_)) | (with_reducible refine XSK ?_)) | ((with_reducible refine XRes_nil ?_); refine hK _ ?_; clear hK K) | ((with_reducible refine AX_reg0 fun K hK => ?_); simp only [go_sem]) | (first | (first | refine XTL (by rfl) hD ?_ | refine XTL (by rfl) hE ?_ | refine XTL (by rfl) hH ?_ | refine XTL (by rfl) hk ?_))))
  (simp only [bodyX]; refine ⟨_, by simp only [aresults, aresult, XS.as, Tryd.results32, aload, go_sem, Option.bind_some]; rfl, ?_⟩)
  exact ⟨rfl, trivial⟩
end Go.Proofs.YtghdacijcnmhlaaDoor
namespace Go.Proofs.YtghdacijcnmhlaaDoor
open Go.RowKit Go.Lib
set_option linter.unusedVariables false
set_option linter.unusedSimpArgs false
def lsB (L : List Int) : List UInt8 := (L.map itoa).flatMap spW
theorem stB_add {s : Stp} (h : s.k ≠ 2) : stB s = (((itoa s.i ++ lsB s.L) ++ [32, 48]) ++ lsB s.H) ++ [32, 48, 10] := by
  unfold stB stW lsB
  rw [if_neg h]
  simp [spW, wZ]
theorem stB_del {s : Stp} (h : s.k = 2) : stB s = ((itoa s.i ++ [32, 100]) ++ lsB s.H) ++ [32, 48, 10] := by
  unfold stB stW lsB
  rw [if_pos h]
  simp [spW, wZ, wD]
theorem dec_len : ∀ (k m : Nat), m < 10 ^ (k + 1) → (decDigits m).length ≤ k + 1
  | 0, m, h => by rw [decDigits, dif_pos (by simpa using h)]; simp
  | k + 1, m, h => by
    by_cases h1 : m < 10
    · rw [decDigits, dif_pos h1]; simp
    · rw [decDigits, dif_neg h1, List.length_append, List.length_singleton]
      have := dec_len k (m / 10) (by rw [Nat.div_lt_iff_lt_mul (by decide), ← Nat.pow_succ]; exact h)
      omega
theorem itoa_len9 {n : Int} (h : -10000000 ≤ n ∧ n ≤ 10000000) : (itoa n).length ≤ 9 := by
  unfold itoa
  by_cases h1 : n < 0
  · rw [if_pos h1, List.length_cons]
    have := dec_len 7 n.natAbs (by omega)
    omega
  · rw [if_neg h1]
    have := dec_len 7 n.toNat (by omega)
    omega
theorem lsB_step {L : List Int} {k : Nat} (h : k < L.length) : lsB (L.take (k + 1)) = (lsB (L.take k) ++ [32]) ++ itoa (L.getD k 0) := by
  unfold lsB
  rw [List.take_add_one, List.getElem?_eq_getElem h, List.getD_eq_getElem?_getD, List.getElem?_eq_getElem h]
  rw [Option.toList_some, List.map_append, List.flatMap_append]
  simp [spW]
theorem lsB_len {L : List Int} (h : ∀ x ∈ L, -10000000 ≤ x ∧ x ≤ 10000000) : (lsB L).length ≤ L.length * 10 := by
  induction L with
  | nil => simp [lsB]
  | cons x L ih =>
    have h1 := ih fun y hy => h y (by simp [hy])
    have hx := h x (by simp)
    have h2 := itoa_len9 hx
    have e : lsB (x :: L) = 32 :: itoa x ++ lsB L := rfl
    rw [e, List.length_append, List.length_cons, List.length_cons]; omega
theorem lsB_ne {L : List Int} (h : L ≠ []) : lsB L ≠ [] := by
  cases L with
  | nil => exact absurd rfl h
  | cons x L => show 32 :: itoa x ++ lsB L ≠ []; simp
theorem stOk_fit {s : Stp} (h : stOk s) : (-10000000 ≤ s.i ∧ s.i ≤ 10000000) ∧ s.L.length ≤ 1000 ∧ s.H.length ≤ 1000 ∧ (∀ x ∈ s.L, -10000000 ≤ x ∧ x ≤ 10000000) ∧ ∀ x ∈ s.H, -10000000 ≤ x ∧ x ≤ 10000000 := by
  rcases h with ⟨h1, h2, h3, h4⟩ | ⟨h1, h2, h3, h4⟩
  · obtain ⟨a, b, _⟩ := cCheck_in h3
    exact ⟨by omega, a, h4.1, fun x hx => by have := b x hx; omega, fun x hx => by have := h4.2 x hx; omega⟩
  · rw [h3]
    exact ⟨by omega, by simp, h4.1, fun x hx => by simp at hx, fun x hx => by have := h4.2 x hx; omega⟩
theorem stOk_len {s : Stp} (h : stOk s) : (stB s).length ≤ 10 * (s.L.length + s.H.length) + 20 := by
  obtain ⟨a, b, c, d, e⟩ := stOk_fit h
  have h1 := lsB_len d
  have h2 := lsB_len e
  have h3 := itoa_len9 a
  by_cases hk : s.k = 2
  · rw [stB_del hk]; simp only [List.length_append, List.length_cons, List.length_nil]; omega
  · rw [stB_add hk]; simp only [List.length_append, List.length_cons, List.length_nil]; omega
attribute [go_sem] rnL_u8C idL_u8C
theorem Wf5d6a {A B : Prop} (h9 : B) (w : B → A := by (intro h9; (repeat intro K hK); refine ⟨?_⟩; (repeat (first | (first | (with_reducible first | refine AX_block ?_ | refine AX_skip ?_ | refine AX_exit ?_ | refine AX_ret ?_ | refine AX_ift ?_ | refine AX_iff ?_ | refine AX_seq_k (fun K hK => ?_) | refine ContX.use (by assumption) ?_) | simp only [thenX, inBlockX, if_true, if_false, reduceCtorEq]) | ((refine XRes_allocX tyOK (e := bT) (by rfl) (by rfl) (by rfl) ?_); (simp only [putL, List.set_cons_succ, List.set_cons_zero])) | (first | ((first | (with_reducible refine XRes_op tyOK ?_ ?_) | ((with_reducible first | refine ADF_op tyOK ?_ ?_ ?_ | refine ADX_op tyOK ?_ ?_ ?_); (focus rfl)) | (with_reducible refine ADR_alloc1 tyOK ?_ ?_) | ((with_reducible refine ADR_free1 tyOK ?_ ?_ ?_); (focus rfl)) | ((with_reducible refine ADR_free0 tyOK ?_ ?_ ?_); (focus rfl)) | ((with_reducible refine ADR_read1 tyOK ?_ ?_ ?_); (focus rfl)) | (with_reducible refine ADR_chg1 tyOK ?_ ?_)); (focus (first | (with_reducible rfl) | ((simp (disch := omega) only [go_sem]); done))); simp (disch := omega) only [go_sem , iInts, List.length_append, hs1, hs2, hs3, hs4, hs5, hs6, hs7, hs8, u8C_len, List.length_set, ba_app, ba_size, stG_0, stG_1, stG_2, stG_3, Int.toNat_zero, Int.toNat_one, Int.reduceToNat, Nat.zero_add, Int.toNat_natCast, List.length_cons, List.length_nil, Nat.reduceAdd]; (first | (with_reducible refine XRes_id ?_) | (with_reducible refine ADF_id ?_) | (with_reducible refine ADR_id1 ?_) | (with_reducible refine ADX_id ?_))) | ((first | (with_reducible refine XRes_skip ?_ ?_) | (with_reducible refine ADF_skip (b := true) ?_ ?_) | (with_reducible refine ADX_skip ?_ ?_) | ((with_reducible refine ADR_skip1 ?_ ?_ ?_); (focus rfl))); (focus (first | rfl | ((simp (disch := omega) only [go_sem]); done))); (simp only [putL, List.set_cons_succ, List.set_cons_zero]))) | ((first | (with_reducible refine XRes_nil ?_) | (with_reducible refine ADF_nil ?_) | (with_reducible refine ADR_nil ?_) | (with_reducible refine ADX_nil ?_)); (first | refine hK _ ?_ | refine hK _ _ ?_); clear hK K) | ((first | (with_reducible refine AX_reg0 fun K hK => ?_) | (refine AX_drawG1 tyOK (by kernel_rfl) (by rfl) (by kernel_rfl) fun K hK => ?_) | (refine AX_drawT tyOK (by kernel_rfl) (by decide +kernel) fun K hK => ?_) | (refine AX_drawM1 (by kernel_rfl) (by rfl) (by decide +kernel) fun K hK => ?_) | (refine AX_drawA tyOK (by kernel_rfl) (by decide +kernel) fun K hK => ?_)); (first | simp only [go_sem, preN, effOp, runF, alM, mapOp, alD2, kdOf2, Bool.not_false, Bool.not_true, reduceCtorEq] | simp only [go_sem, preN, effOp, runF, alM, mapOp, Bool.not_false, Bool.not_true, reduceCtorEq] | simp only [go_sem, preN, effOp, runF, alD2, kdOf2, Bool.not_false, Bool.not_true, reduceCtorEq] | simp only [go_sem, alD2, kdOf2, Bool.not_false, Bool.not_true, reduceCtorEq] | simp only [go_sem, preN, effOp, runF, Bool.not_false, Bool.not_true, reduceCtorEq] | simp only [go_sem])) | (first | (first | refine XTL (by rfl) hC ?_ | refine ATL tyOK (by rfl) hC ?_ | refine XTL (by rfl) hD ?_ | refine ATL tyOK (by rfl) hD ?_ | refine XTL (by rfl) hA ?_ | refine ATL tyOK (by rfl) hA ?_ | refine XTL (by rfl) hB ?_ | refine ATL tyOK (by rfl) hB ?_) | ((refine XRes_slot (by rfl) rfl (PF.tells (idsA rfl) (fun _ => rfl) hcl) ?_); (rintro r H' ⟨rfl, rfl⟩); (simp only [putL, List.set_cons_succ, List.set_cons_zero]))))); refine Wk.o ?_; (repeat revert hK K); exact h9)) : A := w h9
theorem Wf5d6b {A B : Prop} (h9 : B) (w : B → A := by (intro h9; (repeat intro K hK); refine ⟨?_⟩; (repeat (first | (first | (with_reducible first | refine AX_block ?_ | refine AX_skip ?_ | refine AX_exit ?_ | refine AX_ret ?_ | refine AX_ift ?_ | refine AX_iff ?_ | refine AX_seq_k (fun K hK => ?_) | refine ContX.use (by assumption) ?_) | simp only [thenX, inBlockX, if_true, if_false, reduceCtorEq]) | (first | ((first | (with_reducible refine XRes_op tyOK ?_ ?_) | ((with_reducible first | refine ADF_op tyOK ?_ ?_ ?_ | refine ADX_op tyOK ?_ ?_ ?_); (focus rfl)) | (with_reducible refine ADR_alloc1 tyOK ?_ ?_) | ((with_reducible refine ADR_free1 tyOK ?_ ?_ ?_); (focus rfl)) | ((with_reducible refine ADR_free0 tyOK ?_ ?_ ?_); (focus rfl)) | ((with_reducible refine ADR_read1 tyOK ?_ ?_ ?_); (focus rfl)) | (with_reducible refine ADR_chg1 tyOK ?_ ?_)); (focus (first | (with_reducible rfl) | ((simp (disch := omega) only [go_sem]); done))); simp (disch := omega) only [go_sem , iInts, List.length_append, hs1, hs2, hs3, hs4, hs5, hs6, hs7, hs8, u8C_len, List.length_set, ba_app, ba_size, stG_0, stG_1, stG_2, stG_3, Int.toNat_zero, Int.toNat_one, Int.reduceToNat, Nat.zero_add, Int.toNat_natCast, List.length_cons, List.length_nil, Nat.reduceAdd]; (first | (with_reducible refine XRes_id ?_) | (with_reducible refine ADF_id ?_) | (with_reducible refine ADR_id1 ?_) | (with_reducible refine ADX_id ?_))) | ((first | (with_reducible refine XRes_skip ?_ ?_) | (with_reducible refine ADF_skip (b := true) ?_ ?_) | (with_reducible refine ADX_skip ?_ ?_) | ((with_reducible refine ADR_skip1 ?_ ?_ ?_); (focus rfl))); (focus (first | rfl | ((simp (disch := omega) only [go_sem]); done))); (simp only [putL, List.set_cons_succ, List.set_cons_zero]))) | ((first | (with_reducible refine XRes_nil ?_) | (with_reducible refine ADF_nil ?_) | (with_reducible refine ADR_nil ?_) | (with_reducible refine ADX_nil ?_)); (first | refine hK _ ?_ | refine hK _ _ ?_); clear hK K) | (first | (first | refine XTL (by rfl) hC ?_ | refine ATL tyOK (by rfl) hC ?_ | refine XTL (by rfl) hD ?_ | refine ATL tyOK (by rfl) hD ?_ | refine XTL (by rfl) hA ?_ | refine ATL tyOK (by rfl) hA ?_ | refine XTL (by rfl) hB ?_ | refine ATL tyOK (by rfl) hB ?_) | ((refine XRes_slot (by rfl) rfl (PF.tells (idsA rfl) (fun _ => rfl) hcl) ?_); (rintro r H' ⟨rfl, rfl⟩); (simp only [putL, List.set_cons_succ, List.set_cons_zero]))) | ((with_reducible refine AX_reg0 fun K hK => ?_); simp only [go_sem]) | ((refine AX_drawG1 tyOK (by kernel_rfl) (by rfl) (by kernel_rfl) fun K hK => ?_); (first | simp only [go_sem, preN, effOp, runF, alM, mapOp, alD2, kdOf2, Bool.not_false, Bool.not_true, reduceCtorEq] | simp only [go_sem, preN, effOp, runF, alM, mapOp, Bool.not_false, Bool.not_true, reduceCtorEq] | simp only [go_sem, preN, effOp, runF, alD2, kdOf2, Bool.not_false, Bool.not_true, reduceCtorEq] | simp only [go_sem, alD2, kdOf2, Bool.not_false, Bool.not_true, reduceCtorEq] | simp only [go_sem, preN, effOp, runF, Bool.not_false, Bool.not_true, reduceCtorEq] | simp only [go_sem])))); refine Wk.o ?_; (repeat revert hK K); exact h9)) : A := w h9
set_option maxRecDepth 100000 in
set_option maxHeartbeats 4000000 in
theorem pf_list0 : PF Tryd.prog 55 [.iv (iInts [])] fun r H' => r = lt (.string (ba (lsB []))) ∧ H' = [] := by
  refine SF.forgetAll ?_
  have hs1 := trivial; have hs2 := trivial; have hs3 := trivial; have hs4 := trivial; have hs5 := trivial; have hs6 := trivial; have hs7 := trivial; have hs8 := trivial; have hC := trivial; have hD := trivial; have hA := trivial; have hB := trivial; have hcl := trivial
  unfold iInts
  (refine SF_of_bodyX (aload tt) (aload_ok tyOK) Tryd.func55 rfl (by kernel_rfl) ?_; simp only [Tryd.ntmps55, List.length_cons, List.length_nil, Nat.reduceAdd, Nat.reduceSub, List.replicate_succ, List.replicate_zero, List.cons_append, List.nil_append])
  (refine Wk.o ?_; (repeat revert hK K); refine Wf5d6a ?_; (repeat intro K hK); refine ⟨?_⟩)
  refine AX_wh (σ := Unit) [] (fun _ => []) (fun _ => [some ⟨bT, [lt (.pointer none), lt (.slice none 0 0)]⟩]) (fun _ => []) (fun _ => True) (fun _ => 0) () (fun d => rfl) rfl rfl trivial ?_
  rintro k d fr hfr -
  simp only [updS, deadS] at hfr
  subst hfr
  (refine Wk.o ?_; (repeat revert hK K); refine Wf5d6a ?_; (repeat intro K hK); refine ⟨?_⟩)
  refine XRes_fn (by rfl) (sf_bstr0 (o := 0) (by rfl)) ?_
  rintro r H1 ⟨rfl, rfl⟩
  (simp only [putL, List.set_cons_succ, List.set_cons_zero])
  (refine Wk.o ?_; (repeat revert hK K); refine Wf5d6a ?_; (repeat intro K hK); refine ⟨?_⟩)
  (simp only [bodyX]; refine ⟨_, by simp only [aresults, aresult, XS.as, Tryd.results55, aload, go_sem, Option.bind_some]; rfl, ?_⟩)
  exact ⟨ids_idB rfl, rfl, trivial⟩
set_option maxRecDepth 100000 in
set_option maxHeartbeats 4000000 in
theorem pf_list1 (L : List Int) (h0 : L ≠ []) (hL : L.length ≤ 1000) (hx : ∀ x ∈ L, -10000000 ≤ x ∧ x ≤ 10000000) : PF Tryd.prog 55 [.iv (iInts L)] fun r H' => r = lt (.string (ba (lsB L))) ∧ H' = [] := by
  refine SF.forgetAll ?_
  have hs1 := trivial; have hs2 := trivial; have hs3 := trivial; have hs4 := trivial; have hs5 := trivial; have hs6 := trivial; have hs7 := trivial; have hs8 := trivial; have hC := trivial; have hD := trivial; have hA := trivial; have hB := trivial; have hcl := trivial
  have htl := lsB_len hx
  unfold iInts
  (refine SF_of_bodyX (aload tt) (aload_ok tyOK) Tryd.func55 rfl (by kernel_rfl) ?_; simp only [Tryd.ntmps55, List.length_cons, List.length_nil, Nat.reduceAdd, Nat.reduceSub, List.replicate_succ, List.replicate_zero, List.cons_append, List.nil_append])
  (refine Wk.o ?_; (repeat revert hK K); refine Wf5d6a ?_; (repeat intro K hK); refine ⟨?_⟩)
  refine AX_cellNew 0 5 1 1 _ rfl rfl ?_
  (simp only [putL, List.set_cons_succ, List.set_cons_zero])
  (refine AWH (σ := Nat × List UInt8 × Bool) [9, 10, 11, 5, 12, 13, 14, 15, 16] (fun (k, x, b) => [(8, lint k)]) (fun (k, x, b) => [some ⟨bT, [pz b, .osl 1 0 x.length 1]⟩, some ⟨5, u8C x⟩]) (fun (k, x, b) => []) (fun (k, x, b) => k ≤ L.length ∧ x = lsB (L.take k)) (fun (k, x, b) => L.length - k) (0, [], false) (by first | exact ⟨Nat.zero_le _, by simp [lsB]⟩) ?_; rintro ⟨k, x, b⟩ d fr hfr ⟨hk, hx0⟩; simp only [updS, deadS, List.set_cons_succ, List.set_cons_zero, lint] at hfr; subst hfr; (try dsimp only))
  by_cases hlt : k < L.length
  · have hs2 : decide ((k : Int) < (L.length : Int)) = true := decide_eq_true (by omega)
    have hst := lsB_step hlt
    have hxk := hx (L.getD k 0) (by rw [List.getD_eq_getElem?_getD, List.getElem?_eq_getElem hlt]; exact List.getElem_mem hlt)
    have hC := pf_Digits (L.getD k 0) (by omega) (by omega)
    have hil := itoa_length_le (L.getD k 0) (by omega) (by omega)
    have hxl : x.length ≤ 10000 := by
      rw [hx0]
      have h1 := lsB_len (L := L.take k) fun y hy => hx y (List.mem_of_mem_take hy)
      rw [List.length_take] at h1; omega
    rw [← hx0] at hst
    have hpz : pz b = lt (.pointer none) ∨ pz b = .xptr 0 2 := by cases b; exact .inl rfl; exact .inr rfl
    generalize itoa (L.getD k 0) = y at *
    (refine Wk.o ?_; (repeat revert hK K); refine Wf5d6a ?_; (repeat intro K hK); refine ⟨?_⟩)
    refine XRes_fn (by rfl) (sf_bwb (o := 0) (q := 1) (l := x) (by rfl) hpz (by rfl) (by decide) (by omega) 32) ?_
    rintro r H1 ⟨rfl, rfl⟩
    (simp only [putL, List.set_cons_succ, List.set_cons_zero])
    (refine Wk.o ?_; (repeat revert hK K); refine Wf5d6a ?_; (repeat intro K hK); refine ⟨?_⟩)
    refine XRes_fn (by rfl) (sf_bws (o := 0) (q := 3) (l := x ++ [32]) (by first | rfl | (rw [List.length_append]; rfl)) (.inr rfl) (by rfl) (by decide) (by rw [List.length_append]; show _ + 1 ≤ _; omega) y (by omega)) ?_
    rintro r H1 ⟨rfl, rfl⟩
    (simp only [putL, List.set_cons_succ, List.set_cons_zero])
    (refine Wk.o ?_; (repeat revert hK K); refine Wf5d6a ?_; (repeat intro K hK); refine ⟨?_⟩)
    exact whx_ren [0, 4] (k + 1, x ++ [32] ++ y, true) ⟨by omega, hst.symm⟩ (by (first | omega | (dsimp only; omega) | (simp only; omega))) rfl (by decide) (by decide) (by (simp (disch := omega) only [go_sem, lint, pz , iInts, List.length_append, hs1, hs2, hs3, hs4, hs5, hs6, hs7, hs8, u8C_len, List.length_set, ba_app, ba_size, stG_0, stG_1, stG_2, stG_3, Int.toNat_zero, Int.toNat_one, Int.reduceToNat, Nat.zero_add, Int.toNat_natCast, List.length_cons, List.length_nil, Nat.reduceAdd])) (by (simp (disch := omega) only [go_sem, lint, pz , iInts, List.length_append, hs1, hs2, hs3, hs4, hs5, hs6, hs7, hs8, u8C_len, List.length_set, ba_app, ba_size, stG_0, stG_1, stG_2, stG_3, Int.toNat_zero, Int.toNat_one, Int.reduceToNat, Nat.zero_add, Int.toNat_natCast, List.length_cons, List.length_nil, Nat.reduceAdd])) (by (simp (disch := omega) only [go_sem, lint, pz , iInts, List.length_append, hs1, hs2, hs3, hs4, hs5, hs6, hs7, hs8, u8C_len, List.length_set, ba_app, ba_size, stG_0, stG_1, stG_2, stG_3, Int.toNat_zero, Int.toNat_one, Int.reduceToNat, Nat.zero_add, Int.toNat_natCast, List.length_cons, List.length_nil, Nat.reduceAdd])) (fun d => by first | ((simp (disch := omega) only [go_sem, lint, pz , iInts, List.length_append, hs1, hs2, hs3, hs4, hs5, hs6, hs7, hs8, u8C_len, List.length_set, ba_app, ba_size, stG_0, stG_1, stG_2, stG_3, Int.toNat_zero, Int.toNat_one, Int.reduceToNat, Nat.zero_add, Int.toNat_natCast, List.length_cons, List.length_nil, Nat.reduceAdd]); done) | ((simp (disch := omega) only [go_sem, lint, pz , iInts, List.length_append, hs1, hs2, hs3, hs4, hs5, hs6, hs7, hs8, u8C_len, List.length_set, ba_app, ba_size, stG_0, stG_1, stG_2, stG_3, Int.toNat_zero, Int.toNat_one, Int.reduceToNat, Nat.zero_add, Int.toNat_natCast, List.length_cons, List.length_nil, Nat.reduceAdd]); rfl))
  · obtain rfl : k = L.length := by omega
    rw [List.take_length] at hx0
    have hs2 : decide ((L.length : Int) < (L.length : Int)) = false := decide_eq_false (by omega)
    (refine Wk.o ?_; (repeat revert hK K); refine Wf5d6a ?_; (repeat intro K hK); refine ⟨?_⟩)
    refine XRes_fn (by rfl) (sf_bstr (o := 0) (q := 1) (l := x) (by rfl) (by rfl) (by rw [hx0]; exact lsB_ne h0) (by rw [hx0]; omega)) ?_
    rintro r H1 ⟨rfl, rfl⟩
    (simp only [putL, List.set_cons_succ, List.set_cons_zero])
    (refine Wk.o ?_; (repeat revert hK K); refine Wf5d6a ?_; (repeat intro K hK); refine ⟨?_⟩)
    (simp only [bodyX]; refine ⟨_, by simp only [aresults, aresult, XS.as, Tryd.results55, aload, go_sem, Option.bind_some]; rfl, ?_⟩)
    exact ⟨ids_idB rfl, by rw [← hx0]; rfl, trivial⟩
theorem pf_list (L : List Int) (hL : L.length ≤ 1000) (hx : ∀ x ∈ L, -10000000 ≤ x ∧ x ≤ 10000000) : PF Tryd.prog 55 [.iv (iInts L)] fun r H' => r = lt (.string (ba (lsB L))) ∧ H' = [] := by
  cases L with
  | nil => exact pf_list0
  | cons x L => exact pf_list1 (x :: L) (by simp) hL hx
set_option maxRecDepth 100000 in
set_option maxHeartbeats 4000000 in
theorem pf_added (s : Stp) (h : stOk s) (hk : s.k ≠ 2) : PF Tryd.prog 29 [.agg [lt (.int .i64 s.k), lt (.int .i64 s.i), .iv (iInts s.L), .iv (iInts s.H)]] fun r H' => r = lt (.string (ba (stB s))) ∧ H' = [] := by
  refine SF.forgetAll ?_
  have hs1 := trivial; have hs2 := trivial; have hs3 := trivial; have hs4 := trivial; have hs5 := trivial; have hs6 := trivial; have hs7 := trivial; have hs8 := trivial; have hC := trivial; have hD := trivial; have hA := trivial; have hB := trivial; have hcl := trivial
  rw [stB_add hk]
  obtain ⟨a, b, c, d, e⟩ := stOk_fit h
  have hC := pf_Digits s.i (by omega) (by omega)
  have hA := pf_list s.L b d
  have hB := pf_list s.H c e
  have l1 := itoa_length_le s.i (by omega) (by omega)
  have l2 := lsB_len d
  have l3 := lsB_len e
  generalize lsB s.L = tL at *
  generalize lsB s.H = tH at *
  generalize itoa s.i = tI at *
  unfold iInts at *
  have hs1 : (⟨#[32, 48]⟩ : ByteArray) = ba [32, 48] := rfl
  have hs2 : (⟨#[32, 48, 10]⟩ : ByteArray) = ba [32, 48, 10] := rfl
  (refine SF_of_bodyX (aload tt) (aload_ok tyOK) Tryd.func29 rfl (by kernel_rfl) ?_; simp only [Tryd.ntmps29, List.length_cons, List.length_nil, Nat.reduceAdd, Nat.reduceSub, List.replicate_succ, List.replicate_zero, List.cons_append, List.nil_append])
  (refine Wk.o ?_; (repeat revert hK K); refine Wf5d6b ?_; (repeat intro K hK); refine ⟨?_⟩)
  (simp only [bodyX]; refine ⟨_, by simp only [aresults, aresult, XS.as, Tryd.results29, aload, go_sem, Option.bind_some]; rfl, ?_⟩)
  exact ⟨ids_idB rfl, rfl, trivial⟩
set_option maxRecDepth 100000 in
set_option maxHeartbeats 4000000 in
theorem pf_deleted (s : Stp) (h : stOk s) (hk : s.k = 2) : PF Tryd.prog 30 [.agg [lt (.int .i64 s.k), lt (.int .i64 s.i), .iv (iInts s.L), .iv (iInts s.H)]] fun r H' => r = lt (.string (ba (stB s))) ∧ H' = [] := by
  refine SF.forgetAll ?_
  have hs1 := trivial; have hs2 := trivial; have hs3 := trivial; have hs4 := trivial; have hs5 := trivial; have hs6 := trivial; have hs7 := trivial; have hs8 := trivial; have hC := trivial; have hD := trivial; have hA := trivial; have hB := trivial; have hcl := trivial
  rw [stB_del hk]
  obtain ⟨a, b, c, d, e⟩ := stOk_fit h
  have hC := pf_Digits s.i (by omega) (by omega)
  have hB := pf_list s.H c e
  have l1 := itoa_length_le s.i (by omega) (by omega)
  have l3 := lsB_len e
  generalize lsB s.H = tH at *
  generalize itoa s.i = tI at *
  unfold iInts at *
  have hs1 : (⟨#[32, 100]⟩ : ByteArray) = ba [32, 100] := rfl
  have hs2 : (⟨#[32, 48, 10]⟩ : ByteArray) = ba [32, 48, 10] := rfl
  (refine SF_of_bodyX (aload tt) (aload_ok tyOK) Tryd.func30 rfl (by kernel_rfl) ?_; simp only [Tryd.ntmps30, List.length_cons, List.length_nil, Nat.reduceAdd, Nat.reduceSub, List.replicate_succ, List.replicate_zero, List.cons_append, List.nil_append])
  (refine Wk.o ?_; (repeat revert hK K); refine Wf5d6b ?_; (repeat intro K hK); refine ⟨?_⟩)
  (simp only [bodyX]; refine ⟨_, by simp only [aresults, aresult, XS.as, Tryd.results30, aload, go_sem, Option.bind_some]; rfl, ?_⟩)
  exact ⟨ids_idB rfl, rfl, trivial⟩
end Go.Proofs.YtghdacijcnmhlaaDoor
namespace Go.Proofs.YtghdacijcnmhlaaDoor
open Go.RowKit Go.Lib
set_option linter.unusedVariables false
set_option linter.unusedSimpArgs false
theorem Wd0f2a {A B : Prop} (h9 : B) (w : B → A := by (intro h9; (repeat intro K hK); refine ⟨?_⟩; (repeat (first | (first | (with_reducible first | refine AX_block ?_ | refine AX_skip ?_ | refine AX_exit ?_ | refine AX_ret ?_ | refine AX_ift ?_ | refine AX_iff ?_ | refine AX_seq_k (fun K hK => ?_) | refine ContX.use (by assumption) ?_) | simp only [thenX, inBlockX, if_true, if_false, reduceCtorEq]) | (first | ((first | (with_reducible refine XRes_op tyOK ?_ ?_) | ((with_reducible first | refine ADF_op tyOK ?_ ?_ ?_ | refine ADX_op tyOK ?_ ?_ ?_); (focus rfl)) | (with_reducible refine ADR_alloc1 tyOK ?_ ?_) | ((with_reducible refine ADR_free1 tyOK ?_ ?_ ?_); (focus rfl)) | ((with_reducible refine ADR_free0 tyOK ?_ ?_ ?_); (focus rfl)) | ((with_reducible refine ADR_read1 tyOK ?_ ?_ ?_); (focus rfl)) | (with_reducible refine ADR_chg1 tyOK ?_ ?_)); (focus (first | (with_reducible rfl) | ((simp (disch := omega) only [go_sem]); done))); simp (disch := omega) only [go_sem , iInts, hs1, hs2, hs3, hs4, hs5, hs6, hs7, hs8, hs9, stG_0, stG_1, stG_2, stG_3, Int.toNat_zero, Int.toNat_one, Int.reduceToNat, Nat.zero_add, Int.toNat_natCast, List.length_nil]; (first | (with_reducible refine XRes_id ?_) | (with_reducible refine ADF_id ?_) | (with_reducible refine ADR_id1 ?_) | (with_reducible refine ADX_id ?_))) | ((first | (with_reducible refine XRes_skip ?_ ?_) | (with_reducible refine ADF_skip (b := true) ?_ ?_) | (with_reducible refine ADX_skip ?_ ?_) | ((with_reducible refine ADR_skip1 ?_ ?_ ?_); (focus rfl))); (focus (first | rfl | ((simp (disch := omega) only [go_sem]); done))); (simp only [putL, List.set_cons_succ, List.set_cons_zero]))) | ((first | (with_reducible refine XRes_nil ?_) | (with_reducible refine ADF_nil ?_) | (with_reducible refine ADR_nil ?_) | (with_reducible refine ADX_nil ?_)); (first | refine hK _ ?_ | refine hK _ _ ?_); clear hK K) | (first | (first | refine XTL (by rfl) hC1 ?_ | refine ATL tyOK (by rfl) hC1 ?_ | refine XTL (by rfl) hC2 ?_ | refine ATL tyOK (by rfl) hC2 ?_ | refine XTL (by rfl) hC3 ?_ | refine ATL tyOK (by rfl) hC3 ?_)) | ((with_reducible refine AX_reg0 fun K hK => ?_); simp only [go_sem]))); refine Wk.o ?_; (repeat revert hK K); exact h9)) : A := w h9
set_option maxRecDepth 100000 in
set_option maxHeartbeats 8000000 in
theorem pf_within (H : List Int) (lo : Int) (hl : H.length ≤ 1000000) : PF Tryd.prog 28 [.iv (iInts H), lt (.int .i64 lo)] fun r H' => r = lt (.bool (decide (hOk lo H))) ∧ H' = [] := by
  refine SF.forgetAll ?_
  have hs1 := trivial; have hs2 := trivial; have hs3 := trivial; have hs4 := trivial; have hs5 := trivial; have hs6 := trivial; have hs7 := trivial; have hs8 := trivial; have hs9 := trivial; have hC1 := trivial; have hC2 := trivial; have hC3 := trivial
  unfold iInts
  (refine SF_of_bodyX (aload tt) (aload_ok tyOK) Tryd.func28 rfl (by kernel_rfl) ?_; simp only [Tryd.ntmps28, List.length_cons, List.length_nil, Nat.reduceAdd, Nat.reduceSub, List.replicate_succ, List.replicate_zero, List.cons_append, List.nil_append])
  (refine Wk.o ?_; (repeat revert hK K); refine Wd0f2a ?_; (repeat intro K hK); refine ⟨?_⟩)
  (refine AWH (σ := Nat) [6, 7, 8, 9, 12, 13, 14, 15, 16, 17, 18, 19, 20, 21, 22, 23, 24, 25, 26, 27, 28, 29, 30, 31, 4, 10, 11] (fun k => [(5, lint k)]) (fun k => []) (fun k => []) (fun k => k ≤ H.length ∧ ∀ j, j < k → oOut lo (H.getD j 0) = false) (fun k => H.length - k) 0 (by first | exact ⟨Nat.zero_le _, fun j h => absurd h (by omega)⟩) ?_; rintro k d fr hfr ⟨hk, hj⟩; simp only [updS, deadS, List.set_cons_succ, List.set_cons_zero, lint] at hfr; subst hfr; (try dsimp only))
  by_cases hlt : k < H.length
  · have hs3 : decide ((k : Int) < (H.length : Int)) = true := decide_eq_true (by omega)
    have hnx : oOut lo (H.getD k 0) = false → k + 1 ≤ H.length ∧ ∀ j, j < k + 1 → oOut lo (H.getD j 0) = false := fun he => ⟨by omega, fun j h => by
        rcases Nat.lt_or_ge j k with h1 | h1
        · exact hj j h1
        · rw [show j = k by omega]; exact he⟩
    have hno : oOut lo (H.getD k 0) = true → lt (.bool false) = lt (.bool (decide (hOk lo H))) := fun he => by rw [hOk_is, any_at10 hlt he]; simp
    unfold oOut at hnx hno
    cases h1 : decide (H.getD k 0 < lo) with
    | true =>
      have hs4 := h1
      rw [h1] at hno
      (refine Wk.o ?_; (repeat revert hK K); refine Wd0f2a ?_; (repeat intro K hK); refine ⟨?_⟩)
      (simp only [bodyX]; refine ⟨_, by simp only [aresults, aresult, XS.as, Tryd.results28, aload, go_sem, Option.bind_some]; rfl, ?_⟩)
      exact ⟨ids_idB rfl, hno rfl, trivial⟩
    | false =>
      have hs4 := h1
      rw [h1] at hno
      cases h2 : decide (10000000 < H.getD k 0) with
      | true =>
        have hs5 := h2
        rw [h2] at hno
        (refine Wk.o ?_; (repeat revert hK K); refine Wd0f2a ?_; (repeat intro K hK); refine ⟨?_⟩)
        (simp only [bodyX]; refine ⟨_, by simp only [aresults, aresult, XS.as, Tryd.results28, aload, go_sem, Option.bind_some]; rfl, ?_⟩)
        exact ⟨ids_idB rfl, hno rfl, trivial⟩
      | false =>
        have hs5 := h2
        rw [h2] at hno
        cases h3 : (H.getD k 0 == 0) with
        | true =>
          have hs6 := h3
          rw [h3] at hno
          (refine Wk.o ?_; (repeat revert hK K); refine Wd0f2a ?_; (repeat intro K hK); refine ⟨?_⟩)
          (simp only [bodyX]; refine ⟨_, by simp only [aresults, aresult, XS.as, Tryd.results28, aload, go_sem, Option.bind_some]; rfl, ?_⟩)
          exact ⟨ids_idB rfl, hno rfl, trivial⟩
        | false =>
          have hs6 := h3
          rw [h1, h2, h3] at hnx
          (refine Wk.o ?_; (repeat revert hK K); refine Wd0f2a ?_; (repeat intro K hK); refine ⟨?_⟩)
          exact WEND (k + 1) (hnx rfl) (by (first | omega | (dsimp only; omega) | (simp only; omega)))
  · obtain rfl : k = H.length := by omega
    have hs3 : decide ((H.length : Int) < (H.length : Int)) = false := decide_eq_false (by omega)
    have he : decide (hOk lo H) = decide ((H.length : Int) ≤ 1000) := by rw [hOk_is, any_none10 hj, Bool.not_false, Bool.and_true, decide_eq_decide]; omega
    (refine Wk.o ?_; (repeat revert hK K); refine Wd0f2a ?_; (repeat intro K hK); refine ⟨?_⟩)
    (simp only [bodyX]; refine ⟨_, by simp only [aresults, aresult, XS.as, Tryd.results28, aload, go_sem, Option.bind_some]; rfl, ?_⟩)
    exact ⟨ids_idB rfl, by rw [he], trivial⟩
set_option maxRecDepth 100000 in
set_option maxHeartbeats 8000000 in
theorem pf_rpCheck (xs : List Stp) (hx : StLen xs) : PF Tryd.prog 13 [.iv (iSts xs)] fun r H' => r = .tup [lt (.int .i64 (ckB xs : Int)), lt (.int .i64 (ckE xs))] ∧ H' = [] := by
  refine SF.forgetAll ?_
  have hs1 := trivial; have hs2 := trivial; have hs3 := trivial; have hs4 := trivial; have hs5 := trivial; have hs6 := trivial; have hs7 := trivial; have hs8 := trivial; have hs9 := trivial; have hC1 := trivial; have hC2 := trivial; have hC3 := trivial
  have hxl := hx.len
  have hs1 : decide ((1000000 : Int) < (xs.length : Int)) = false := decide_eq_false (by omega)
  unfold iSts
  (refine SF_of_bodyX (aload tt) (aload_ok tyOK) Tryd.func13 rfl (by kernel_rfl) ?_; simp only [Tryd.ntmps13, List.length_cons, List.length_nil, Nat.reduceAdd, Nat.reduceSub, List.replicate_succ, List.replicate_zero, List.cons_append, List.nil_append])
  (refine Wk.o ?_; (repeat revert hK K); refine Wd0f2a ?_; (repeat intro K hK); refine ⟨?_⟩)
  (refine AWH (σ := Nat) [11, 12, 13, 14, 17, 18, 19, 20, 5, 21, 22, 23, 24, 25, 26, 27, 28, 29, 30, 31, 32, 33, 34, 35, 36, 37, 38, 39, 40, 41, 42, 43, 44, 6, 45, 46, 47, 48, 49, 50, 51, 52, 53, 54, 55, 56, 57, 58, 59, 60, 61, 62, 63, 64, 65, 66, 67, 68, 7, 69, 70, 71, 72, 73, 74, 75, 2, 3, 15, 16] (fun k => [(4, lint k)]) (fun k => []) (fun k => []) (fun k => k ≤ xs.length ∧ ∀ j, j < k → stOk (stAt xs j)) (fun k => xs.length - k) 0 (by first | exact ⟨Nat.zero_le _, fun j h => absurd h (by omega)⟩) ?_; rintro k d fr hfr ⟨hk, hj⟩; simp only [updS, deadS, List.set_cons_succ, List.set_cons_zero, lint] at hfr; subst hfr; (try dsimp only))
  by_cases hlt : k < xs.length
  · have hs3 : decide ((k : Int) < (xs.length : Int)) = true := decide_eq_true (by omega)
    have hC1 := pf_r02Check (stAt xs k).L 100000 (hx.row k).1
    have hC2 := pf_within (stAt xs k).H (-10000000) (hx.row k).2
    have hC3 := pf_within (stAt xs k).H 1 (hx.row k).2
    have hd : decide (stOk (stAt xs k)) = ((((stAt xs k).k == 1) && decide (1 ≤ (stAt xs k).i) && decide ((stAt xs k).i ≤ 10000000) && (cCheck (stAt xs k).L 100000 == 0) && decide (hOk (-10000000) (stAt xs k).H)) || (((stAt xs k).k == 2) && decide (0 ≤ (stAt xs k).i) && decide ((stAt xs k).i ≤ 10000000) && (((stAt xs k).L.length : Int) == 0) && decide (hOk 1 (stAt xs k).H))) := by
      have hn : (((stAt xs k).L.length : Int) == 0) = decide ((stAt xs k).L = []) := by rw [Bool.eq_iff_iff]; cases (stAt xs k).L <;> simp; omega
      rw [hn, Bool.eq_iff_iff]; unfold stOk; simp [and_assoc]
    have hk12 : ((stAt xs k).k == 1) = true → ((stAt xs k).k == 2) = false := fun h => by
      have : (stAt xs k).k = 1 := by simpa using h
      rw [this]; rfl
    have hnx : stOk (stAt xs k) → k + 1 ≤ xs.length ∧ ∀ j, j < k + 1 → stOk (stAt xs j) := fun he => ⟨by omega, fun j h => by
        rcases Nat.lt_or_ge j k with h1 | h1
        · exact hj j h1
        · rw [show j = k by omega]; exact he⟩
    have hbad : ¬ stOk (stAt xs k) → AV.tup [lt (.int .i64 (k : Int)), lt (.int .i64 2)] = AV.tup [lt (.int .i64 (ckB xs : Int)), lt (.int .i64 (ckE xs))] := fun ho => by
      have hb := ckB_at hlt hj ho
      have he : ckE xs = 2 := by unfold ckE; rw [hb, if_pos hlt]
      rw [hb, he]
    unfold iInts at hC1 hC2 hC3
    generalize decide (hOk (-10000000) (stAt xs k).H) = bW1 at *
    generalize decide (hOk 1 (stAt xs k).H) = bW2 at *
    cases h1 : ((stAt xs k).k == 1) with
    | true =>
      have hs4 := h1
      have hs5 := hk12 h1
      rw [hs4, hs5] at hd
      cases h2 : decide (1 ≤ (stAt xs k).i) with
      | false =>
        have hs6 := h2
        rw [h2] at hd
        (refine Wk.o ?_; (repeat revert hK K); refine Wd0f2a ?_; (repeat intro K hK); refine ⟨?_⟩)
        (simp only [bodyX]; refine ⟨_, by simp only [aresults, aresult, XS.as, Tryd.results13, aload, go_sem, Option.bind_some]; rfl, ?_⟩)
        exact ⟨ids_idB rfl, hbad (of_decide_eq_false hd), trivial⟩
      | true =>
        have hs6 := h2
        rw [h2] at hd
        cases h3 : decide ((stAt xs k).i ≤ 10000000) with
        | false =>
          have hs7 := h3
          rw [h3] at hd
          (refine Wk.o ?_; (repeat revert hK K); refine Wd0f2a ?_; (repeat intro K hK); refine ⟨?_⟩)
          (simp only [bodyX]; refine ⟨_, by simp only [aresults, aresult, XS.as, Tryd.results13, aload, go_sem, Option.bind_some]; rfl, ?_⟩)
          exact ⟨ids_idB rfl, hbad (of_decide_eq_false hd), trivial⟩
        | true =>
          have hs7 := h3
          rw [h3] at hd
          cases h4 : (cCheck (stAt xs k).L 100000 == 0) with
          | false =>
            have hs8 := h4
            rw [h4] at hd
            (refine Wk.o ?_; (repeat revert hK K); refine Wd0f2a ?_; (repeat intro K hK); refine ⟨?_⟩)
            (simp only [bodyX]; refine ⟨_, by simp only [aresults, aresult, XS.as, Tryd.results13, aload, go_sem, Option.bind_some]; rfl, ?_⟩)
            exact ⟨ids_idB rfl, hbad (of_decide_eq_false hd), trivial⟩
          | true =>
            have hs8 := h4
            rw [h4] at hd
            cases bW1 with
            | false =>
              (refine Wk.o ?_; (repeat revert hK K); refine Wd0f2a ?_; (repeat intro K hK); refine ⟨?_⟩)
              (simp only [bodyX]; refine ⟨_, by simp only [aresults, aresult, XS.as, Tryd.results13, aload, go_sem, Option.bind_some]; rfl, ?_⟩)
              exact ⟨ids_idB rfl, hbad (of_decide_eq_false hd), trivial⟩
            | true =>
              (refine Wk.o ?_; (repeat revert hK K); refine Wd0f2a ?_; (repeat intro K hK); refine ⟨?_⟩)
              exact whx_ren [] (k + 1) (hnx (of_decide_eq_true hd)) (by (first | omega | (dsimp only; omega) | (simp only; omega))) rfl (by decide) (by decide) (by (simp (disch := omega) only [go_sem, lint, Nat.reduceEqDiff, List.length_map])) (by (simp (disch := omega) only [go_sem, lint, Nat.reduceEqDiff, List.length_map])) (by (simp (disch := omega) only [go_sem, lint, Nat.reduceEqDiff, List.length_map])) (fun d => by first | ((simp (disch := omega) only [go_sem, lint, Nat.reduceEqDiff, List.length_map]); done) | ((simp (disch := omega) only [go_sem, lint, Nat.reduceEqDiff, List.length_map]); rfl))
    | false =>
      have hs4 := h1
      rw [h1] at hd
      cases h0 : ((stAt xs k).k == 2) with
      | false =>
        have hs5 := h0
        rw [h0] at hd
        (refine Wk.o ?_; (repeat revert hK K); refine Wd0f2a ?_; (repeat intro K hK); refine ⟨?_⟩)
        (simp only [bodyX]; refine ⟨_, by simp only [aresults, aresult, XS.as, Tryd.results13, aload, go_sem, Option.bind_some]; rfl, ?_⟩)
        exact ⟨ids_idB rfl, hbad (of_decide_eq_false hd), trivial⟩
      | true =>
        have hs5 := h0
        rw [h0] at hd
        cases h2 : decide (0 ≤ (stAt xs k).i) with
        | false =>
          have hs6 := h2
          rw [h2] at hd
          (refine Wk.o ?_; (repeat revert hK K); refine Wd0f2a ?_; (repeat intro K hK); refine ⟨?_⟩)
          (simp only [bodyX]; refine ⟨_, by simp only [aresults, aresult, XS.as, Tryd.results13, aload, go_sem, Option.bind_some]; rfl, ?_⟩)
          exact ⟨ids_idB rfl, hbad (of_decide_eq_false hd), trivial⟩
        | true =>
          have hs6 := h2
          rw [h2] at hd
          cases h3 : decide ((stAt xs k).i ≤ 10000000) with
          | false =>
            have hs7 := h3
            rw [h3] at hd
            (refine Wk.o ?_; (repeat revert hK K); refine Wd0f2a ?_; (repeat intro K hK); refine ⟨?_⟩)
            (simp only [bodyX]; refine ⟨_, by simp only [aresults, aresult, XS.as, Tryd.results13, aload, go_sem, Option.bind_some]; rfl, ?_⟩)
            exact ⟨ids_idB rfl, hbad (of_decide_eq_false hd), trivial⟩
          | true =>
            have hs7 := h3
            rw [h3] at hd
            cases h4 : (((stAt xs k).L.length : Int) == 0) with
            | false =>
              have hs8 := h4
              rw [h4] at hd
              (refine Wk.o ?_; (repeat revert hK K); refine Wd0f2a ?_; (repeat intro K hK); refine ⟨?_⟩)
              (simp only [bodyX]; refine ⟨_, by simp only [aresults, aresult, XS.as, Tryd.results13, aload, go_sem, Option.bind_some]; rfl, ?_⟩)
              exact ⟨ids_idB rfl, hbad (of_decide_eq_false hd), trivial⟩
            | true =>
              have hs8 := h4
              rw [h4] at hd
              cases bW2 with
              | false =>
                (refine Wk.o ?_; (repeat revert hK K); refine Wd0f2a ?_; (repeat intro K hK); refine ⟨?_⟩)
                (simp only [bodyX]; refine ⟨_, by simp only [aresults, aresult, XS.as, Tryd.results13, aload, go_sem, Option.bind_some]; rfl, ?_⟩)
                exact ⟨ids_idB rfl, hbad (of_decide_eq_false hd), trivial⟩
              | true =>
                (refine Wk.o ?_; (repeat revert hK K); refine Wd0f2a ?_; (repeat intro K hK); refine ⟨?_⟩)
                exact whx_ren [] (k + 1) (hnx (of_decide_eq_true hd)) (by (first | omega | (dsimp only; omega) | (simp only; omega))) rfl (by decide) (by decide) (by (simp (disch := omega) only [go_sem, lint, Nat.reduceEqDiff, List.length_map])) (by (simp (disch := omega) only [go_sem, lint, Nat.reduceEqDiff, List.length_map])) (by (simp (disch := omega) only [go_sem, lint, Nat.reduceEqDiff, List.length_map])) (fun d => by first | ((simp (disch := omega) only [go_sem, lint, Nat.reduceEqDiff, List.length_map]); done) | ((simp (disch := omega) only [go_sem, lint, Nat.reduceEqDiff, List.length_map]); rfl))
  · obtain rfl : k = xs.length := by omega
    have hs3 : decide ((xs.length : Int) < (xs.length : Int)) = false := decide_eq_false (by omega)
    have hb := ckB_all hj
    have he : ckE xs = 0 := by unfold ckE; rw [hb, if_neg (by omega)]
    (refine Wk.o ?_; (repeat revert hK K); refine Wd0f2a ?_; (repeat intro K hK); refine ⟨?_⟩)
    (simp only [bodyX]; refine ⟨_, by simp only [aresults, aresult, XS.as, Tryd.results13, aload, go_sem, Option.bind_some]; rfl, ?_⟩)
    exact ⟨ids_idB rfl, by rw [hb, he], trivial⟩
end Go.Proofs.YtghdacijcnmhlaaDoor
