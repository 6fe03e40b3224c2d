import Derived.Test.YtghdacijcnmhlaaDoorMgAG
import Derived.Test.YtghdacijcnmhlaaDoorMgAF
import Derived.Test.YtghdacijcnmhlaaDoorMgAV
import Derived.Test.YtghdacijcnmhlaaDoorMgAW
import Derived.Test.YtghdacijcnmhlaaDoorMgAU
import Derived.Test.YtghdacijcnmhlaaDoorMgBI
import Derived.Test.YtghdacijcnmhlaaDoorMgBG
namespace Go.Proofs.YtghdacijcnmhlaaDoor
open Go.RowKit
set_option linter.unusedVariables false
set_option linter.unusedSimpArgs false
set_option linter.unusedVariables false
set_option linter.unusedSimpArgs false
theorem pf_r01CheckF (x V : Int) : PF Tryd.prog 52 [lt (.int .i64 x), lt (.int .i64 V)] fun r H' => r = lt (.int .i64 (lcheck x V)) ∧ H' = [] :=
  PF_of_walk ⟨_, Tryd.func52, by kernel_rfl, rfl⟩ fun G w vs hi hr => by
    obtain ⟨u, us, rfl, h1, hr⟩ := hr.uncons
    obtain ⟨u2, us, rfl, h2, hr⟩ := hr.uncons
    rw [hr.unnil, h1.lit_inv, h2.lit_inv]
    exact (ref_Check x V w).mono fun e w' h => ⟨h.1, h.2 ▸ Below.refl _ _⟩
theorem ra_takeF {n : Nat} {G : Gh} {c : List Int} {k : Nat} (hk : k ≤ c.length) {v : Value} (h : RA n G (.iv (.sl (fun j => .lit (.int .i64 (c.getD j 0))) k 1)) v) : RA n G (.iv (iInts (c.take k))) v := by
  have hl : (c.take k).length = k := by rw [List.length_take]; omega
  unfold iInts
  rw [hl]
  refine RA.congr h fun j hj => ?_
  have hj2 : j < k := by omega
  simp only [List.getD_eq_getElem?_getD, List.getElem?_take_of_lt hj2]
theorem pf_hasF (c : List Int) (k : Nat) (v : Int) (hk : k ≤ c.length) (hc : c.length ≤ 1000000) : PF Tryd.prog 53 [.iv (.sl (fun j => .lit (.int .i64 (c.getD j 0))) k 1), lt (.int .i64 v)] fun r H' => r = lt (.bool (decide (v ∈ c.take k))) ∧ H' = [] :=
  SF.args (pf_has (c.take k) v (by rw [List.length_take]; omega)) fun G vs h => by
    obtain ⟨u, us, rfl, h1, h2⟩ := h.uncons
    exact RL.cons (ra_takeF hk h1) h2
theorem nodup_take {c : List Int} {k : Nat} (h : k < c.length) : (c.take (k + 1)).Nodup ↔ (c.take k).Nodup ∧ c.getD k 0 ∉ c.take k := by
  rw [List.take_add_one, List.getElem?_eq_getElem h, List.getD_eq_getElem?_getD, List.getElem?_eq_getElem h]
  simp only [Option.toList_some, Option.getD_some, List.nodup_append]
  constructor
  · rintro ⟨h1, _, h3⟩
    exact ⟨h1, fun hm => h3 _ hm _ (by simp) rfl⟩
  · rintro ⟨h1, h2⟩
    refine ⟨h1, by simp, fun a ha b hb e => ?_⟩
    simp at hb; subst hb; subst e; exact h2 ha
theorem nodup_take_of {c : List Int} (h : c.Nodup) (k : Nat) : (c.take k).Nodup := List.Sublist.nodup (List.take_sublist k c) h
theorem W171fa {A B : Prop} (h9 : B) (w : B → A := by (intro h9; (repeat intro K hK); refine ⟨?_⟩; (repeat (first | (first | (with_reducible first | refine AX_block ?_ | refine AX_skip ?_ | refine AX_exit ?_ | refine AX_ret ?_ | refine AX_ift ?_ | refine AX_iff ?_ | refine AX_seq_k (fun K hK => ?_) | refine ContX.use (by assumption) ?_) | simp only [thenX, inBlockX, if_true, if_false, reduceCtorEq]) | (first | ((first | (with_reducible refine XRes_op tyOK ?_ ?_) | ((with_reducible first | refine ADF_op tyOK ?_ ?_ ?_ | refine ADX_op tyOK ?_ ?_ ?_); (focus rfl)) | (with_reducible refine ADR_alloc1 tyOK ?_ ?_) | ((with_reducible refine ADR_free1 tyOK ?_ ?_ ?_); (focus rfl)) | ((with_reducible refine ADR_free0 tyOK ?_ ?_ ?_); (focus rfl)) | ((with_reducible refine ADR_read1 tyOK ?_ ?_ ?_); (focus rfl)) | (with_reducible refine ADR_chg1 tyOK ?_ ?_)); (focus (first | (with_reducible rfl) | ((simp (disch := omega) only [go_sem]); done))); simp (disch := omega) only [go_sem , iInts, iRows, hs1, hs2, hs3, List.length_nil]; (first | (with_reducible refine XRes_id ?_) | (with_reducible refine ADF_id ?_) | (with_reducible refine ADR_id1 ?_) | (with_reducible refine ADX_id ?_))) | ((first | (with_reducible refine XRes_skip ?_ ?_) | (with_reducible refine ADF_skip (b := true) ?_ ?_) | (with_reducible refine ADX_skip ?_ ?_) | ((with_reducible refine ADR_skip1 ?_ ?_ ?_); (focus rfl))); (focus (first | rfl | ((simp (disch := omega) only [go_sem]); done))); (simp only [putL, List.set_cons_succ, List.set_cons_zero]))) | ((first | (with_reducible refine XRes_nil ?_) | (with_reducible refine ADF_nil ?_) | (with_reducible refine ADR_nil ?_) | (with_reducible refine ADX_nil ?_)); (first | refine hK _ ?_ | refine hK _ _ ?_); clear hK K) | ((first | (with_reducible refine AX_reg0 fun K hK => ?_) | (refine AX_drawG1 tyOK (by kernel_rfl) (by rfl) (by kernel_rfl) fun K hK => ?_) | (refine AX_drawT tyOK (by kernel_rfl) (by decide +kernel) fun K hK => ?_) | (refine AX_drawM1 (by kernel_rfl) (by rfl) (by decide +kernel) fun K hK => ?_) | (refine AX_drawA tyOK (by kernel_rfl) (by decide +kernel) fun K hK => ?_)); (first | simp only [go_sem, preN, effOp, runF, alM, mapOp, alD2, kdOf2, Bool.not_false, Bool.not_true, reduceCtorEq] | simp only [go_sem, preN, effOp, runF, alM, mapOp, Bool.not_false, Bool.not_true, reduceCtorEq] | simp only [go_sem, preN, effOp, runF, alD2, kdOf2, Bool.not_false, Bool.not_true, reduceCtorEq] | simp only [go_sem, alD2, kdOf2, Bool.not_false, Bool.not_true, reduceCtorEq] | simp only [go_sem, preN, effOp, runF, Bool.not_false, Bool.not_true, reduceCtorEq] | simp only [go_sem])) | (first | (first | refine XTL (by rfl) hC ?_ | refine ATL tyOK (by rfl) hC ?_ | refine XTL (by rfl) hS ?_ | refine ATL tyOK (by rfl) hS ?_)))); refine Wk.o ?_; (repeat revert hK K); exact h9)) : A := w h9
set_option maxRecDepth 100000 in
set_option maxHeartbeats 4000000 in
theorem pf_r02Check (c : List Int) (V : Int) (hl : c.length ≤ 1000000) : PF Tryd.prog 27 [.iv (iInts c), lt (.int .i64 V)] fun r H' => r = lt (.int .i64 (cCheck c V)) ∧ H' = [] := by
  refine SF.forgetAll ?_
  have hs1 := trivial; have hs2 := trivial; have hs3 := trivial; have hs4 := trivial; have hC := trivial; have hS := trivial
  by_cases hV : V < 0 ∨ 100000 < V
  · rw [show cCheck c V = 2 from if_pos hV]
    by_cases hV1 : V < 0
    · have hs1 : decide (V < 0) = true := decide_eq_true hV1
      (refine SF_of_bodyX (aload tt) (aload_ok tyOK) Tryd.func27 rfl (by kernel_rfl) ?_; simp only [Tryd.ntmps27, List.length_cons, List.length_nil, Nat.reduceAdd, Nat.reduceSub, List.replicate_succ, List.replicate_zero, List.cons_append, List.nil_append])
      (refine Wk.o ?_; (repeat revert hK K); refine W171fa ?_; (repeat intro K hK); refine ⟨?_⟩)
      (simp only [bodyX]; refine ⟨_, by simp only [aresults, aresult, XS.as, Tryd.results27, aload, go_sem, Option.bind_some]; rfl, ?_⟩)
      exact ⟨ids_idB rfl, rfl, trivial⟩
    · have hs1 : decide (V < 0) = false := decide_eq_false hV1
      have hs2 : decide (100000 < V) = true := decide_eq_true (by omega)
      (refine SF_of_bodyX (aload tt) (aload_ok tyOK) Tryd.func27 rfl (by kernel_rfl) ?_; simp only [Tryd.ntmps27, List.length_cons, List.length_nil, Nat.reduceAdd, Nat.reduceSub, List.replicate_succ, List.replicate_zero, List.cons_append, List.nil_append])
      (refine Wk.o ?_; (repeat revert hK K); refine W171fa ?_; (repeat intro K hK); refine ⟨?_⟩)
      (simp only [bodyX]; refine ⟨_, by simp only [aresults, aresult, XS.as, Tryd.results27, aload, go_sem, Option.bind_some]; rfl, ?_⟩)
      exact ⟨ids_idB rfl, rfl, trivial⟩
  · have hs1 : decide (V < 0) = false := decide_eq_false (by omega)
    have hs2 : decide (100000 < V) = false := decide_eq_false (by omega)
    have hcc : cCheck c V = if 1000 < c.length then 3 else if (c.all fun x => lcheck x V == 0) = false then 10 else if c.Nodup then 0 else 21 := by unfold cCheck; rw [if_neg hV]
    by_cases hb : 1000 < c.length
    · rw [if_pos hb] at hcc
      rw [hcc]
      have hs3 : decide ((1000 : Int) < (c.length : Int)) = true := decide_eq_true (by omega)
      (refine SF_of_bodyX (aload tt) (aload_ok tyOK) Tryd.func27 rfl (by kernel_rfl) ?_; simp only [Tryd.ntmps27, List.length_cons, List.length_nil, Nat.reduceAdd, Nat.reduceSub, List.replicate_succ, List.replicate_zero, List.cons_append, List.nil_append])
      unfold iInts
      (refine Wk.o ?_; (repeat revert hK K); refine W171fa ?_; (repeat intro K hK); refine ⟨?_⟩)
      (simp only [bodyX]; refine ⟨_, by simp only [aresults, aresult, XS.as, Tryd.results27, aload, go_sem, Option.bind_some]; rfl, ?_⟩)
      exact ⟨ids_idB rfl, rfl, trivial⟩
    · rw [if_neg hb] at hcc
      have hs3 : decide ((1000 : Int) < (c.length : Int)) = false := decide_eq_false (by omega)
      (refine SF_of_bodyX (aload tt) (aload_ok tyOK) Tryd.func27 rfl (by kernel_rfl) ?_; simp only [Tryd.ntmps27, List.length_cons, List.length_nil, Nat.reduceAdd, Nat.reduceSub, List.replicate_succ, List.replicate_zero, List.cons_append, List.nil_append])
      unfold iInts
      (refine Wk.o ?_; (repeat revert hK K); refine W171fa ?_; (repeat intro K hK); refine ⟨?_⟩)
      (refine AWH (σ := Nat) [16, 17, 18, 19, 22, 23, 24, 25, 26, 27, 28, 4, 20, 21] (fun k => [(5, lint k)]) (fun k => []) (fun k => []) (fun k => k ≤ c.length ∧ ∀ j, j < k → lcheck (c.getD j 0) V = 0) (fun k => c.length - k) 0 (by first | exact ⟨Nat.zero_le _, fun j h => absurd h (by omega)⟩) ?_; rintro k d fr hfr ⟨hk, hj⟩; simp only [updS, deadS, List.set_cons_succ, List.set_cons_zero, lint] at hfr; subst hfr; (try dsimp only))
      by_cases hlt : k < c.length
      · have hC := pf_r01CheckF (c.getD k 0) V
        by_cases he : lcheck (c.getD k 0) V = 0
        · rw [he] at hC
          (refine Wk.o ?_; (repeat revert hK K); refine W171fa ?_; (repeat intro K hK); refine ⟨?_⟩)
          exact whx_end (k + 1) ⟨by omega, fun j h1 => by
            rcases Nat.lt_or_ge j k with h3 | h3
            · exact hj j h3
            · rw [show j = k by omega, he]⟩ (by (first | omega | (dsimp only; omega) | (simp only; omega))) rfl (by first | rfl | (simp (disch := omega) only [go_sem, lint])) (fun d => by first | ((simp only [deadS, updS, List.set_cons_succ, List.set_cons_zero, lint, List.length_nil, List.length_cons]); done) | ((simp only [deadS, updS, List.set_cons_succ, List.set_cons_zero, lint, List.length_nil, List.length_cons]); rfl) | rfl)
        · have hall : (c.all fun x => lcheck x V == 0) = false := by
            rw [List.all_eq_false]
            exact ⟨c[k], List.getElem_mem hlt, by rw [List.getD_eq_getElem?_getD, List.getElem?_eq_getElem hlt] at he; simpa using he⟩
          rw [if_pos hall] at hcc
          have hs4 : (lcheck (c.getD k 0) V != 0) = true := by simpa using he
          generalize lcheck (c.getD k 0) V = e at *
          (refine Wk.o ?_; (repeat revert hK K); refine W171fa ?_; (repeat intro K hK); refine ⟨?_⟩)
          (simp only [bodyX]; refine ⟨_, by simp only [aresults, aresult, XS.as, Tryd.results27, aload, go_sem, Option.bind_some]; rfl, ?_⟩)
          exact ⟨ids_idB rfl, by rw [hcc], trivial⟩
      · obtain rfl : k = c.length := by omega
        have hall : (c.all fun x => lcheck x V == 0) = true := by
          rw [List.all_eq_true]
          intro x hx
          obtain ⟨j, hj2, rfl⟩ := List.mem_iff_getElem.1 hx
          have := hj j hj2
          rw [List.getD_eq_getElem?_getD, List.getElem?_eq_getElem hj2] at this
          simpa using this
        rw [if_neg (by rw [hall]; simp)] at hcc
        (refine Wk.o ?_; (repeat revert hK K); refine W171fa ?_; (repeat intro K hK); refine ⟨?_⟩)
        (refine AWH (σ := Nat) [29, 30, 31, 32, 35, 36, 37, 38, 39, 40, 41, 42, 4, 33, 34] (fun k => [(6, lint k)]) (fun k => []) (fun k => []) (fun k => k ≤ c.length ∧ (c.take k).Nodup) (fun k => c.length - k) 0 (by first | exact ⟨Nat.zero_le _, by simp⟩) ?_; rintro k d fr hfr ⟨hk2, hn⟩; simp only [updS, deadS, List.set_cons_succ, List.set_cons_zero, lint] at hfr; subst hfr; (try dsimp only))
        by_cases hlt2 : k < c.length
        · have hC := pf_hasF c k (c.getD k 0) hk2 hl
          by_cases hm : c.getD k 0 ∈ c.take k
          · rw [decide_eq_true hm] at hC
            rw [if_neg (fun h => ((nodup_take hlt2).1 (nodup_take_of h _)).2 hm)] at hcc
            (refine Wk.o ?_; (repeat revert hK K); refine W171fa ?_; (repeat intro K hK); refine ⟨?_⟩)
            (simp only [bodyX]; refine ⟨_, by simp only [aresults, aresult, XS.as, Tryd.results27, aload, go_sem, Option.bind_some]; rfl, ?_⟩)
            exact ⟨ids_idB rfl, by rw [hcc], trivial⟩
          · rw [decide_eq_false hm] at hC
            (refine Wk.o ?_; (repeat revert hK K); refine W171fa ?_; (repeat intro K hK); refine ⟨?_⟩)
            exact WEND (k + 1) ⟨by omega, (nodup_take hlt2).2 ⟨hn, hm⟩⟩ (by (first | omega | (dsimp only; omega) | (simp only; omega)))
        · obtain rfl : k = c.length := by omega
          rw [List.take_length] at hn
          rw [if_pos hn] at hcc
          (refine Wk.o ?_; (repeat revert hK K); refine W171fa ?_; (repeat intro K hK); refine ⟨?_⟩)
          (simp only [bodyX]; refine ⟨_, by simp only [aresults, aresult, XS.as, Tryd.results27, aload, go_sem, Option.bind_some]; rfl, ?_⟩)
          exact ⟨ids_idB rfl, by rw [hcc], trivial⟩
set_option maxRecDepth 100000 in
set_option maxHeartbeats 1000000 in
theorem pf_rowsSelf6 (A : List (List Int)) (hA : A.length ≤ 1000000) (hr : ∀ k, (A.getD k []).length ≤ 1000000) : PF Tryd.prog 20 [.iv (iRows A), .iv (iRows A)] fun r H' => r = lt (.bool true) ∧ H' = [] := by
  refine SF.forgetAll ?_
  have hs1 := trivial; have hs2 := trivial; have hs3 := trivial; have hS := trivial
  have hSm := fun k => pf_sameInts (A.getD k []) (A.getD k []) (hr k) (hr k)
  simp only [decide_true] at hSm
  have hC := trivial
  (refine SF_of_bodyX (aload tt) (aload_ok tyOK) Tryd.func20 rfl (by kernel_rfl) ?_; simp only [Tryd.ntmps20, List.length_cons, List.length_nil, Nat.reduceAdd, Nat.reduceSub, List.replicate_succ, List.replicate_zero, List.cons_append, List.nil_append])
  unfold iRows
  (refine Wk.o ?_; (repeat revert hK K); refine W171fa ?_; (repeat intro K hK); refine ⟨?_⟩)
  (refine AWH (σ := Nat) [11, 12, 13, 14, 17, 18, 19, 20, 21, 22, 23, 24, 25, 26, 4, 15, 16] (fun k => [(5, lint k)]) (fun k => []) (fun k => []) (fun k => k ≤ A.length) (fun k => A.length - k) 0 (by first | exact Nat.zero_le _) ?_; rintro k d fr hfr hk; simp only [updS, deadS, List.set_cons_succ, List.set_cons_zero, lint] at hfr; subst hfr; (try dsimp only))
  by_cases hlt : k < A.length
  · have hC := hSm k
    (refine Wk.o ?_; (repeat revert hK K); refine W171fa ?_; (repeat intro K hK); refine ⟨?_⟩)
    exact WEND (k + 1) (by omega) (by (first | omega | (dsimp only; omega) | (simp only; omega)))
  · obtain rfl : k = A.length := by omega
    (refine Wk.o ?_; (repeat revert hK K); refine W171fa ?_; (repeat intro K hK); refine ⟨?_⟩)
    (simp only [bodyX]; refine ⟨_, by simp only [aresults, aresult, XS.as, Tryd.results20, aload, go_sem, Option.bind_some]; rfl, ?_⟩)
    exact ⟨ids_idB rfl, rfl, trivial⟩
end Go.Proofs.YtghdacijcnmhlaaDoor
namespace Go.Proofs.YtghdacijcnmhlaaDoor
open Go.RowKit Go.Lib
set_option linter.unusedVariables false
set_option linter.unusedSimpArgs false
def oneP (x : Int) : Nat → IV := fun _ => .lit (.int .i64 x)
theorem frz_oneP {H : AHeap} {ds : List Nat} {o : Nat} {t : TypeId} {x : Int} (hd : o ∈ ds) (h : H[o]? = some (some ⟨t, [lt (.int .i64 x)]⟩)) : FrzV (onlyH ds H) (.optr o 0) (.iv (.ptr (oneP x) 1)) := by
  refine .iv _ _ (.optr o 0 1 _ ⟨t, [lt (.int .i64 x)]⟩ (fun j => .iv (oneP x j)) (by decide) (only_mk hd h) (fun j hj => ?_) fun j _ => .iv _)
  rcases j with _ | j
  · rfl
  · omega
def oOut (lo n : Int) : Bool := decide (n < lo) || decide (10000000 < n) || (n == 0)
theorem oOut_ok {lo : Int} {H : List Int} : H.any (oOut lo) = false ↔ ∀ x ∈ H, (lo ≤ x ∧ x ≤ 10000000) ∧ x ≠ 0 := by
  rw [List.any_eq_false]
  refine ⟨fun h x hx => ?_, fun h x hx => ?_⟩
  · have := h x hx
    unfold oOut at this
    simp only [Bool.or_eq_true, decide_eq_true_eq, beq_iff_eq, not_or] at this
    exact ⟨by omega, this.2⟩
  · have := h x hx
    unfold oOut
    simp only [Bool.or_eq_true, decide_eq_true_eq, beq_iff_eq, not_or]
    exact ⟨⟨by omega, by omega⟩, this.2⟩
theorem hOk_is {lo : Int} {H : List Int} : decide (hOk lo H) = (decide (H.length ≤ 1000) && !H.any (oOut lo)) := by
  rw [Bool.eq_iff_iff, decide_eq_true_eq, Bool.and_eq_true, decide_eq_true_eq, Bool.not_eq_true', oOut_ok]; rfl
theorem any_at10 {c : List Int} {p : Int → Bool} {k : Nat} (hk : k < c.length) (h : p (c.getD k 0) = true) : c.any p = true := List.any_eq_true.2 ⟨_, by simp [List.getD, hk], h⟩
theorem any_none10 {c : List Int} {p : Int → Bool} (h : ∀ j, j < c.length → p (c.getD j 0) = false) : c.any p = false := by
  rw [List.any_eq_false]
  intro x hx
  obtain ⟨j, hj, rfl⟩ := List.mem_iff_getElem.1 hx
  have := h j hj
  rw [show c.getD j 0 = c[j] by simp [List.getD, hj]] at this
  simp [this]
set_option maxRecDepth 100000 in
set_option maxHeartbeats 2000000 in
theorem pf_ixC (c : List Int) (f : FuncId) (g : IV) (p : Int → Bool) (hc : c.length ≤ 1000000) (hq : ∀ x, PF Tryd.prog f [lt (.int .i64 x), .iv g] fun r H' => r = lt (.bool (p x)) ∧ H' = []) : PF Tryd.prog 63 [.iv (iInts c), .fn f [] [.iv g]] fun r H' => ∃ q : Int, r = lt (.int .i64 q) ∧ decide (0 ≤ q) = c.any p ∧ H' = [] := by
  refine SF.forgetAll ?_
  have hs1 := trivial; have hs2 := trivial; have hs3 := trivial; have hs4 := trivial; have hs5 := trivial; have hs6 := trivial; have hs7 := trivial; have hs8 := trivial; have hs9 := trivial; have hC1 := trivial; have hC2 := trivial; have hC3 := trivial; have hO := trivial; have hcl := trivial; have hE := trivial
  (refine SF_of_bodyX (aload tt) (aload_ok tyOK) Tryd.func63 rfl (by kernel_rfl) ?_; simp only [Tryd.ntmps63, List.length_cons, List.length_nil, Nat.reduceAdd, Nat.reduceSub, List.replicate_succ, List.replicate_zero, List.cons_append, List.nil_append])
  unfold iInts
  (repeat (first | (first | (with_reducible first | refine AX_block ?_ | refine AX_skip ?_ | refine AX_exit ?_ | refine AX_ret ?_ | refine AX_ift ?_ | refine AX_iff ?_ | refine AX_seq_k (fun K hK => ?_) | refine ContX.use (by assumption) ?_) | simp only [thenX, inBlockX, if_true, if_false, reduceCtorEq]) | (first | ((first | (with_reducible refine XRes_op tyOK ?_ ?_) | ((with_reducible first | refine ADF_op tyOK ?_ ?_ ?_ | refine ADX_op tyOK ?_ ?_ ?_); (focus rfl)) | (with_reducible refine ADR_alloc1 tyOK ?_ ?_) | ((with_reducible refine ADR_free1 tyOK ?_ ?_ ?_); (focus rfl)) | ((with_reducible refine ADR_free0 tyOK ?_ ?_ ?_); (focus rfl)) | ((with_reducible refine ADR_read1 tyOK ?_ ?_ ?_); (focus rfl)) | (with_reducible refine ADR_chg1 tyOK ?_ ?_)); (focus (first | (with_reducible rfl) | ((simp (disch := omega) only [go_sem]); done))); simp (disch := omega) only [go_sem , iInts, hs1, hs2, hs3, hs4, hs5, hs6, hs7, hs8, hs9, stG_0, stG_1, stG_2, stG_3, oneP, Int.toNat_zero, Int.toNat_one, Int.reduceToNat, Nat.zero_add, Int.toNat_natCast, List.length_nil]; (first | (with_reducible refine XRes_id ?_) | (with_reducible refine ADF_id ?_) | (with_reducible refine ADR_id1 ?_) | (with_reducible refine ADX_id ?_))) | ((first | (with_reducible refine XRes_skip ?_ ?_) | (with_reducible refine ADF_skip (b := true) ?_ ?_) | (with_reducible refine ADX_skip ?_ ?_) | ((with_reducible refine ADR_skip1 ?_ ?_ ?_); (focus rfl))); (focus (first | rfl | ((simp (disch := omega) only [go_sem]); done))); (simp only [putL, List.set_cons_succ, List.set_cons_zero]))) | ((first | (with_reducible refine XRes_nil ?_) | (with_reducible refine ADF_nil ?_) | (with_reducible refine ADR_nil ?_) | (with_reducible refine ADX_nil ?_)); (first | refine hK _ ?_ | refine hK _ _ ?_); clear hK K) | (first | (first | refine XTL (by rfl) hC1 ?_ | refine ATL tyOK (by rfl) hC1 ?_ | refine XTL (by rfl) hC2 ?_ | refine ATL tyOK (by rfl) hC2 ?_ | refine XTL (by rfl) hC3 ?_ | refine ATL tyOK (by rfl) hC3 ?_) | ((refine ADF_reads tyOK (by rfl) (by rfl) (fun H2 _ => PF.tells (idsA (by rfl)) (fun _ => rfl) hO) ?_); (simp only [putL, List.set_cons_succ, List.set_cons_zero])) | ((refine XRes_slot (by rfl) rfl (PF.tells (idsA rfl) (fun _ => rfl) hcl) ?_); (rintro r H' ⟨rfl, rfl⟩); (simp only [putL, List.set_cons_succ, List.set_cons_zero])) | ((refine XRes_fn (by rfl) hE ?_); (rintro r H' ⟨q, rfl, hq, rfl⟩); (simp only [putL, List.set_cons_succ, List.set_cons_zero]))) | ((with_reducible refine AX_reg0 fun K hK => ?_); simp only [go_sem]) | ((refine AX_drawG1 tyOK (by kernel_rfl) (by rfl) (by kernel_rfl) fun K hK => ?_); (first | simp only [go_sem, preN, effOp, runF, alM, mapOp, alD2, kdOf2, Bool.not_false, Bool.not_true, reduceCtorEq] | simp only [go_sem, preN, effOp, runF, alM, mapOp, Bool.not_false, Bool.not_true, reduceCtorEq] | simp only [go_sem, preN, effOp, runF, alD2, kdOf2, Bool.not_false, Bool.not_true, reduceCtorEq] | simp only [go_sem, alD2, kdOf2, Bool.not_false, Bool.not_true, reduceCtorEq] | simp only [go_sem, preN, effOp, runF, Bool.not_false, Bool.not_true, reduceCtorEq] | simp only [go_sem]))))
  (refine AWH (σ := Nat) [9, 10, 5, 11, 12, 13, 14, 15, 16, 17, 4, 18] (fun k => [(8, lint k)]) (fun k => []) (fun k => []) (fun k => k ≤ c.length ∧ ∀ j, j < k → p (c.getD j 0) = false) (fun k => c.length - k) 0 (by first | exact ⟨Nat.zero_le _, fun j h => absurd h (by omega)⟩) ?_; rintro k d fr hfr ⟨hk, hj⟩; simp only [updS, deadS, List.set_cons_succ, List.set_cons_zero, lint] at hfr; subst hfr; (try dsimp only))
  by_cases hlt : k < c.length
  · have hcl := hq (c.getD k 0)
    cases hp : p (c.getD k 0) with
    | true =>
      rw [hp] at hcl
      (repeat (first | (first | (with_reducible first | refine AX_block ?_ | refine AX_skip ?_ | refine AX_exit ?_ | refine AX_ret ?_ | refine AX_ift ?_ | refine AX_iff ?_ | refine AX_seq_k (fun K hK => ?_) | refine ContX.use (by assumption) ?_) | simp only [thenX, inBlockX, if_true, if_false, reduceCtorEq]) | (first | ((first | (with_reducible refine XRes_op tyOK ?_ ?_) | ((with_reducible first | refine ADF_op tyOK ?_ ?_ ?_ | refine ADX_op tyOK ?_ ?_ ?_); (focus rfl)) | (with_reducible refine ADR_alloc1 tyOK ?_ ?_) | ((with_reducible refine ADR_free1 tyOK ?_ ?_ ?_); (focus rfl)) | ((with_reducible refine ADR_free0 tyOK ?_ ?_ ?_); (focus rfl)) | ((with_reducible refine ADR_read1 tyOK ?_ ?_ ?_); (focus rfl)) | (with_reducible refine ADR_chg1 tyOK ?_ ?_)); (focus (first | (with_reducible rfl) | ((simp (disch := omega) only [go_sem]); done))); simp (disch := omega) only [go_sem , iInts, hs1, hs2, hs3, hs4, hs5, hs6, hs7, hs8, hs9, stG_0, stG_1, stG_2, stG_3, oneP, Int.toNat_zero, Int.toNat_one, Int.reduceToNat, Nat.zero_add, Int.toNat_natCast, List.length_nil]; (first | (with_reducible refine XRes_id ?_) | (with_reducible refine ADF_id ?_) | (with_reducible refine ADR_id1 ?_) | (with_reducible refine ADX_id ?_))) | ((first | (with_reducible refine XRes_skip ?_ ?_) | (with_reducible refine ADF_skip (b := true) ?_ ?_) | (with_reducible refine ADX_skip ?_ ?_) | ((with_reducible refine ADR_skip1 ?_ ?_ ?_); (focus rfl))); (focus (first | rfl | ((simp (disch := omega) only [go_sem]); done))); (simp only [putL, List.set_cons_succ, List.set_cons_zero]))) | ((first | (with_reducible refine XRes_nil ?_) | (with_reducible refine ADF_nil ?_) | (with_reducible refine ADR_nil ?_) | (with_reducible refine ADX_nil ?_)); (first | refine hK _ ?_ | refine hK _ _ ?_); clear hK K) | (first | (first | refine XTL (by rfl) hC1 ?_ | refine ATL tyOK (by rfl) hC1 ?_ | refine XTL (by rfl) hC2 ?_ | refine ATL tyOK (by rfl) hC2 ?_ | refine XTL (by rfl) hC3 ?_ | refine ATL tyOK (by rfl) hC3 ?_) | ((refine ADF_reads tyOK (by rfl) (by rfl) (fun H2 _ => PF.tells (idsA (by rfl)) (fun _ => rfl) hO) ?_); (simp only [putL, List.set_cons_succ, List.set_cons_zero])) | ((refine XRes_slot (by rfl) rfl (PF.tells (idsA rfl) (fun _ => rfl) hcl) ?_); (rintro r H' ⟨rfl, rfl⟩); (simp only [putL, List.set_cons_succ, List.set_cons_zero])) | ((refine XRes_fn (by rfl) hE ?_); (rintro r H' ⟨q, rfl, hq, rfl⟩); (simp only [putL, List.set_cons_succ, List.set_cons_zero]))) | ((with_reducible refine AX_reg0 fun K hK => ?_); simp only [go_sem]) | ((refine AX_drawG1 tyOK (by kernel_rfl) (by rfl) (by kernel_rfl) fun K hK => ?_); (first | simp only [go_sem, preN, effOp, runF, alM, mapOp, alD2, kdOf2, Bool.not_false, Bool.not_true, reduceCtorEq] | simp only [go_sem, preN, effOp, runF, alM, mapOp, Bool.not_false, Bool.not_true, reduceCtorEq] | simp only [go_sem, preN, effOp, runF, alD2, kdOf2, Bool.not_false, Bool.not_true, reduceCtorEq] | simp only [go_sem, alD2, kdOf2, Bool.not_false, Bool.not_true, reduceCtorEq] | simp only [go_sem, preN, effOp, runF, Bool.not_false, Bool.not_true, reduceCtorEq] | simp only [go_sem]))))
      (simp only [bodyX]; refine ⟨_, by simp only [aresults, aresult, XS.as, Tryd.results63, aload, go_sem, Option.bind_some]; rfl, ?_⟩)
      exact ⟨.iv _, k, rfl, by rw [any_at10 hlt hp]; simp, trivial⟩
    | false =>
      rw [hp] at hcl
      (repeat (first | (first | (with_reducible first | refine AX_block ?_ | refine AX_skip ?_ | refine AX_exit ?_ | refine AX_ret ?_ | refine AX_ift ?_ | refine AX_iff ?_ | refine AX_seq_k (fun K hK => ?_) | refine ContX.use (by assumption) ?_) | simp only [thenX, inBlockX, if_true, if_false, reduceCtorEq]) | (first | ((first | (with_reducible refine XRes_op tyOK ?_ ?_) | ((with_reducible first | refine ADF_op tyOK ?_ ?_ ?_ | refine ADX_op tyOK ?_ ?_ ?_); (focus rfl)) | (with_reducible refine ADR_alloc1 tyOK ?_ ?_) | ((with_reducible refine ADR_free1 tyOK ?_ ?_ ?_); (focus rfl)) | ((with_reducible refine ADR_free0 tyOK ?_ ?_ ?_); (focus rfl)) | ((with_reducible refine ADR_read1 tyOK ?_ ?_ ?_); (focus rfl)) | (with_reducible refine ADR_chg1 tyOK ?_ ?_)); (focus (first | (with_reducible rfl) | ((simp (disch := omega) only [go_sem]); done))); simp (disch := omega) only [go_sem , iInts, hs1, hs2, hs3, hs4, hs5, hs6, hs7, hs8, hs9, stG_0, stG_1, stG_2, stG_3, oneP, Int.toNat_zero, Int.toNat_one, Int.reduceToNat, Nat.zero_add, Int.toNat_natCast, List.length_nil]; (first | (with_reducible refine XRes_id ?_) | (with_reducible refine ADF_id ?_) | (with_reducible refine ADR_id1 ?_) | (with_reducible refine ADX_id ?_))) | ((first | (with_reducible refine XRes_skip ?_ ?_) | (with_reducible refine ADF_skip (b := true) ?_ ?_) | (with_reducible refine ADX_skip ?_ ?_) | ((with_reducible refine ADR_skip1 ?_ ?_ ?_); (focus rfl))); (focus (first | rfl | ((simp (disch := omega) only [go_sem]); done))); (simp only [putL, List.set_cons_succ, List.set_cons_zero]))) | ((first | (with_reducible refine XRes_nil ?_) | (with_reducible refine ADF_nil ?_) | (with_reducible refine ADR_nil ?_) | (with_reducible refine ADX_nil ?_)); (first | refine hK _ ?_ | refine hK _ _ ?_); clear hK K) | (first | (first | refine XTL (by rfl) hC1 ?_ | refine ATL tyOK (by rfl) hC1 ?_ | refine XTL (by rfl) hC2 ?_ | refine ATL tyOK (by rfl) hC2 ?_ | refine XTL (by rfl) hC3 ?_ | refine ATL tyOK (by rfl) hC3 ?_) | ((refine ADF_reads tyOK (by rfl) (by rfl) (fun H2 _ => PF.tells (idsA (by rfl)) (fun _ => rfl) hO) ?_); (simp only [putL, List.set_cons_succ, List.set_cons_zero])) | ((refine XRes_slot (by rfl) rfl (PF.tells (idsA rfl) (fun _ => rfl) hcl) ?_); (rintro r H' ⟨rfl, rfl⟩); (simp only [putL, List.set_cons_succ, List.set_cons_zero])) | ((refine XRes_fn (by rfl) hE ?_); (rintro r H' ⟨q, rfl, hq, rfl⟩); (simp only [putL, List.set_cons_succ, List.set_cons_zero]))) | ((with_reducible refine AX_reg0 fun K hK => ?_); simp only [go_sem]) | ((refine AX_drawG1 tyOK (by kernel_rfl) (by rfl) (by kernel_rfl) fun K hK => ?_); (first | simp only [go_sem, preN, effOp, runF, alM, mapOp, alD2, kdOf2, Bool.not_false, Bool.not_true, reduceCtorEq] | simp only [go_sem, preN, effOp, runF, alM, mapOp, Bool.not_false, Bool.not_true, reduceCtorEq] | simp only [go_sem, preN, effOp, runF, alD2, kdOf2, Bool.not_false, Bool.not_true, reduceCtorEq] | simp only [go_sem, alD2, kdOf2, Bool.not_false, Bool.not_true, reduceCtorEq] | simp only [go_sem, preN, effOp, runF, Bool.not_false, Bool.not_true, reduceCtorEq] | simp only [go_sem]))))
      exact whx_ren [] (k + 1) ⟨by omega, fun j h => by
        rcases Nat.lt_or_ge j k with h1 | h1
        · exact hj j h1
        · rw [show j = k by omega]; exact hp⟩ (by (first | omega | (dsimp only; omega) | (simp only; omega))) rfl (by decide) (by decide) (by (simp (disch := omega) only [go_sem, lint])) (by (simp (disch := omega) only [go_sem, lint])) (by (simp (disch := omega) only [go_sem, lint])) (fun d => by (simp (disch := omega) only [go_sem, lint]))
  · obtain rfl : k = c.length := by omega
    (repeat (first | (first | (with_reducible first | refine AX_block ?_ | refine AX_skip ?_ | refine AX_exit ?_ | refine AX_ret ?_ | refine AX_ift ?_ | refine AX_iff ?_ | refine AX_seq_k (fun K hK => ?_) | refine ContX.use (by assumption) ?_) | simp only [thenX, inBlockX, if_true, if_false, reduceCtorEq]) | (first | ((first | (with_reducible refine XRes_op tyOK ?_ ?_) | ((with_reducible first | refine ADF_op tyOK ?_ ?_ ?_ | refine ADX_op tyOK ?_ ?_ ?_); (focus rfl)) | (with_reducible refine ADR_alloc1 tyOK ?_ ?_) | ((with_reducible refine ADR_free1 tyOK ?_ ?_ ?_); (focus rfl)) | ((with_reducible refine ADR_free0 tyOK ?_ ?_ ?_); (focus rfl)) | ((with_reducible refine ADR_read1 tyOK ?_ ?_ ?_); (focus rfl)) | (with_reducible refine ADR_chg1 tyOK ?_ ?_)); (focus (first | (with_reducible rfl) | ((simp (disch := omega) only [go_sem]); done))); simp (disch := omega) only [go_sem , iInts, hs1, hs2, hs3, hs4, hs5, hs6, hs7, hs8, hs9, stG_0, stG_1, stG_2, stG_3, oneP, Int.toNat_zero, Int.toNat_one, Int.reduceToNat, Nat.zero_add, Int.toNat_natCast, List.length_nil]; (first | (with_reducible refine XRes_id ?_) | (with_reducible refine ADF_id ?_) | (with_reducible refine ADR_id1 ?_) | (with_reducible refine ADX_id ?_))) | ((first | (with_reducible refine XRes_skip ?_ ?_) | (with_reducible refine ADF_skip (b := true) ?_ ?_) | (with_reducible refine ADX_skip ?_ ?_) | ((with_reducible refine ADR_skip1 ?_ ?_ ?_); (focus rfl))); (focus (first | rfl | ((simp (disch := omega) only [go_sem]); done))); (simp only [putL, List.set_cons_succ, List.set_cons_zero]))) | ((first | (with_reducible refine XRes_nil ?_) | (with_reducible refine ADF_nil ?_) | (with_reducible refine ADR_nil ?_) | (with_reducible refine ADX_nil ?_)); (first | refine hK _ ?_ | refine hK _ _ ?_); clear hK K) | (first | (first | refine XTL (by rfl) hC1 ?_ | refine ATL tyOK (by rfl) hC1 ?_ | refine XTL (by rfl) hC2 ?_ | refine ATL tyOK (by rfl) hC2 ?_ | refine XTL (by rfl) hC3 ?_ | refine ATL tyOK (by rfl) hC3 ?_) | ((refine ADF_reads tyOK (by rfl) (by rfl) (fun H2 _ => PF.tells (idsA (by rfl)) (fun _ => rfl) hO) ?_); (simp only [putL, List.set_cons_succ, List.set_cons_zero])) | ((refine XRes_slot (by rfl) rfl (PF.tells (idsA rfl) (fun _ => rfl) hcl) ?_); (rintro r H' ⟨rfl, rfl⟩); (simp only [putL, List.set_cons_succ, List.set_cons_zero])) | ((refine XRes_fn (by rfl) hE ?_); (rintro r H' ⟨q, rfl, hq, rfl⟩); (simp only [putL, List.set_cons_succ, List.set_cons_zero]))) | ((with_reducible refine AX_reg0 fun K hK => ?_); simp only [go_sem]) | ((refine AX_drawG1 tyOK (by kernel_rfl) (by rfl) (by kernel_rfl) fun K hK => ?_); (first | simp only [go_sem, preN, effOp, runF, alM, mapOp, alD2, kdOf2, Bool.not_false, Bool.not_true, reduceCtorEq] | simp only [go_sem, preN, effOp, runF, alM, mapOp, Bool.not_false, Bool.not_true, reduceCtorEq] | simp only [go_sem, preN, effOp, runF, alD2, kdOf2, Bool.not_false, Bool.not_true, reduceCtorEq] | simp only [go_sem, alD2, kdOf2, Bool.not_false, Bool.not_true, reduceCtorEq] | simp only [go_sem, preN, effOp, runF, Bool.not_false, Bool.not_true, reduceCtorEq] | simp only [go_sem]))))
    (simp only [bodyX]; refine ⟨_, by simp only [aresults, aresult, XS.as, Tryd.results63, aload, go_sem, Option.bind_some]; rfl, ?_⟩)
    exact ⟨.iv _, -1, rfl, by rw [any_none10 hj]; rfl, trivial⟩
set_option maxRecDepth 100000 in
set_option maxHeartbeats 2000000 in
theorem pf_ctC (c : List Int) (f : FuncId) (g : IV) (p : Int → Bool) (hc : c.length ≤ 1000000) (hq : ∀ x, PF Tryd.prog f [lt (.int .i64 x), .iv g] fun r H' => r = lt (.bool (p x)) ∧ H' = []) : PF Tryd.prog 51 [.iv (iInts c), .fn f [] [.iv g]] fun r H' => r = lt (.bool (c.any p)) ∧ H' = [] := by
  refine SF.forgetAll ?_
  have hs1 := trivial; have hs2 := trivial; have hs3 := trivial; have hs4 := trivial; have hs5 := trivial; have hs6 := trivial; have hs7 := trivial; have hs8 := trivial; have hs9 := trivial; have hC1 := trivial; have hC2 := trivial; have hC3 := trivial; have hO := trivial; have hcl := trivial; have hE := trivial
  have hE := pf_ixC c f g p hc hq
  (refine SF_of_bodyX (aload tt) (aload_ok tyOK) Tryd.func51 rfl (by kernel_rfl) ?_; simp only [Tryd.ntmps51, List.length_cons, List.length_nil, Nat.reduceAdd, Nat.reduceSub, List.replicate_succ, List.replicate_zero, List.cons_append, List.nil_append])
  (repeat (first | (first | (with_reducible first | refine AX_block ?_ | refine AX_skip ?_ | refine AX_exit ?_ | refine AX_ret ?_ | refine AX_ift ?_ | refine AX_iff ?_ | refine AX_seq_k (fun K hK => ?_) | refine ContX.use (by assumption) ?_) | simp only [thenX, inBlockX, if_true, if_false, reduceCtorEq]) | (first | ((first | (with_reducible refine XRes_op tyOK ?_ ?_) | ((with_reducible first | refine ADF_op tyOK ?_ ?_ ?_ | refine ADX_op tyOK ?_ ?_ ?_); (focus rfl)) | (with_reducible refine ADR_alloc1 tyOK ?_ ?_) | ((with_reducible refine ADR_free1 tyOK ?_ ?_ ?_); (focus rfl)) | ((with_reducible refine ADR_free0 tyOK ?_ ?_ ?_); (focus rfl)) | ((with_reducible refine ADR_read1 tyOK ?_ ?_ ?_); (focus rfl)) | (with_reducible refine ADR_chg1 tyOK ?_ ?_)); (focus (first | (with_reducible rfl) | ((simp (disch := omega) only [go_sem]); done))); simp (disch := omega) only [go_sem , iInts, hs1, hs2, hs3, hs4, hs5, hs6, hs7, hs8, hs9, stG_0, stG_1, stG_2, stG_3, oneP, Int.toNat_zero, Int.toNat_one, Int.reduceToNat, Nat.zero_add, Int.toNat_natCast, List.length_nil]; (first | (with_reducible refine XRes_id ?_) | (with_reducible refine ADF_id ?_) | (with_reducible refine ADR_id1 ?_) | (with_reducible refine ADX_id ?_))) | ((first | (with_reducible refine XRes_skip ?_ ?_) | (with_reducible refine ADF_skip (b := true) ?_ ?_) | (with_reducible refine ADX_skip ?_ ?_) | ((with_reducible refine ADR_skip1 ?_ ?_ ?_); (focus rfl))); (focus (first | rfl | ((simp (disch := omega) only [go_sem]); done))); (simp only [putL, List.set_cons_succ, List.set_cons_zero]))) | ((first | (with_reducible refine XRes_nil ?_) | (with_reducible refine ADF_nil ?_) | (with_reducible refine ADR_nil ?_) | (with_reducible refine ADX_nil ?_)); (first | refine hK _ ?_ | refine hK _ _ ?_); clear hK K) | (first | (first | refine XTL (by rfl) hC1 ?_ | refine ATL tyOK (by rfl) hC1 ?_ | refine XTL (by rfl) hC2 ?_ | refine ATL tyOK (by rfl) hC2 ?_ | refine XTL (by rfl) hC3 ?_ | refine ATL tyOK (by rfl) hC3 ?_) | ((refine ADF_reads tyOK (by rfl) (by rfl) (fun H2 _ => PF.tells (idsA (by rfl)) (fun _ => rfl) hO) ?_); (simp only [putL, List.set_cons_succ, List.set_cons_zero])) | ((refine XRes_slot (by rfl) rfl (PF.tells (idsA rfl) (fun _ => rfl) hcl) ?_); (rintro r H' ⟨rfl, rfl⟩); (simp only [putL, List.set_cons_succ, List.set_cons_zero])) | ((refine XRes_fn (by rfl) hE ?_); (rintro r H' ⟨q, rfl, hq, rfl⟩); (simp only [putL, List.set_cons_succ, List.set_cons_zero]))) | ((with_reducible refine AX_reg0 fun K hK => ?_); simp only [go_sem]) | ((refine AX_drawG1 tyOK (by kernel_rfl) (by rfl) (by kernel_rfl) fun K hK => ?_); (first | simp only [go_sem, preN, effOp, runF, alM, mapOp, alD2, kdOf2, Bool.not_false, Bool.not_true, reduceCtorEq] | simp only [go_sem, preN, effOp, runF, alM, mapOp, Bool.not_false, Bool.not_true, reduceCtorEq] | simp only [go_sem, preN, effOp, runF, alD2, kdOf2, Bool.not_false, Bool.not_true, reduceCtorEq] | simp only [go_sem, alD2, kdOf2, Bool.not_false, Bool.not_true, reduceCtorEq] | simp only [go_sem, preN, effOp, runF, Bool.not_false, Bool.not_true, reduceCtorEq] | simp only [go_sem]))))
  (simp only [bodyX]; refine ⟨_, by simp only [aresults, aresult, XS.as, Tryd.results51, aload, go_sem, Option.bind_some]; rfl, ?_⟩)
  exact ⟨.iv _, by rw [← hq], trivial⟩
end Go.Proofs.YtghdacijcnmhlaaDoor
namespace Go.Proofs.YtghdacijcnmhlaaDoor
open Go.RowKit Go.Lib
set_option linter.unusedVariables false
set_option linter.unusedSimpArgs false
theorem Wcb21a {A B : Prop} (h9 : B) (w : B → A := by (intro h9; (repeat intro K hK); refine ⟨?_⟩; (repeat (first | (first | (with_reducible first | refine AX_block ?_ | refine AX_skip ?_ | refine AX_exit ?_ | refine AX_ret ?_ | refine AX_ift ?_ | refine AX_iff ?_ | refine AX_seq_k (fun K hK => ?_) | refine ContX.use (by assumption) ?_) | simp only [thenX, inBlockX, if_true, if_false, reduceCtorEq]) | (first | ((first | (with_reducible refine XRes_op tyOK ?_ ?_) | ((with_reducible first | refine ADF_op tyOK ?_ ?_ ?_ | refine ADX_op tyOK ?_ ?_ ?_); (focus rfl)) | (with_reducible refine ADR_alloc1 tyOK ?_ ?_) | ((with_reducible refine ADR_free1 tyOK ?_ ?_ ?_); (focus rfl)) | ((with_reducible refine ADR_free0 tyOK ?_ ?_ ?_); (focus rfl)) | ((with_reducible refine ADR_read1 tyOK ?_ ?_ ?_); (focus rfl)) | (with_reducible refine ADR_chg1 tyOK ?_ ?_)); (focus (first | (with_reducible rfl) | ((simp (disch := omega) only [go_sem]); done))); simp (disch := omega) only [go_sem , iInts, hs1, hs2, hs3, hs4, hs5, hs6, hs7, hs8, hs9, stG_0, stG_1, stG_2, stG_3, oneP, Int.toNat_zero, Int.toNat_one, Int.reduceToNat, Nat.zero_add, Int.toNat_natCast, List.length_nil]; (first | (with_reducible refine XRes_id ?_) | (with_reducible refine ADF_id ?_) | (with_reducible refine ADR_id1 ?_) | (with_reducible refine ADX_id ?_))) | ((first | (with_reducible refine XRes_skip ?_ ?_) | (with_reducible refine ADF_skip (b := true) ?_ ?_) | (with_reducible refine ADX_skip ?_ ?_) | ((with_reducible refine ADR_skip1 ?_ ?_ ?_); (focus rfl))); (focus (first | rfl | ((simp (disch := omega) only [go_sem]); done))); (simp only [putL, List.set_cons_succ, List.set_cons_zero]))) | ((first | (with_reducible refine XRes_nil ?_) | (with_reducible refine ADF_nil ?_) | (with_reducible refine ADR_nil ?_) | (with_reducible refine ADX_nil ?_)); (first | refine hK _ ?_ | refine hK _ _ ?_); clear hK K) | (first | (first | refine XTL (by rfl) hC1 ?_ | refine ATL tyOK (by rfl) hC1 ?_ | refine XTL (by rfl) hC2 ?_ | refine ATL tyOK (by rfl) hC2 ?_ | refine XTL (by rfl) hC3 ?_ | refine ATL tyOK (by rfl) hC3 ?_) | ((refine ADF_reads tyOK (by rfl) (by rfl) (fun H2 _ => PF.tells (idsA (by rfl)) (fun _ => rfl) hO) ?_); (simp only [putL, List.set_cons_succ, List.set_cons_zero])) | ((refine XRes_slot (by rfl) rfl (PF.tells (idsA rfl) (fun _ => rfl) hcl) ?_); (rintro r H' ⟨rfl, rfl⟩); (simp only [putL, List.set_cons_succ, List.set_cons_zero]))) | ((with_reducible refine AX_reg0 fun K hK => ?_); simp only [go_sem]) | ((refine AX_drawG1 tyOK (by kernel_rfl) (by rfl) (by kernel_rfl) fun K hK => ?_); (first | simp only [go_sem, preN, effOp, runF, alM, mapOp, alD2, kdOf2, Bool.not_false, Bool.not_true, reduceCtorEq] | simp only [go_sem, preN, effOp, runF, alM, mapOp, Bool.not_false, Bool.not_true, reduceCtorEq] | simp only [go_sem, preN, effOp, runF, alD2, kdOf2, Bool.not_false, Bool.not_true, reduceCtorEq] | simp only [go_sem, alD2, kdOf2, Bool.not_false, Bool.not_true, reduceCtorEq] | simp only [go_sem, preN, effOp, runF, Bool.not_false, Bool.not_true, reduceCtorEq] | simp only [go_sem])))); refine Wk.o ?_; (repeat revert hK K); exact h9)) : A := w h9
set_option maxRecDepth 100000 in
set_option maxHeartbeats 2000000 in
theorem pf_may11 (lo x : Int) : PF Tryd.prog 49 [lt (.int .i64 x), .iv (.ptr (oneP lo) 1)] fun r H' => r = lt (.bool (oOut lo x)) ∧ H' = [] := by
  refine SF.forgetAll ?_
  have hs1 := trivial; have hs2 := trivial; have hs3 := trivial; have hs4 := trivial; have hs5 := trivial; have hs6 := trivial; have hs7 := trivial; have hs8 := trivial; have hs9 := trivial; have hC1 := trivial; have hC2 := trivial; have hC3 := trivial; have hO := trivial; have hcl := trivial; have hE := trivial
  unfold oOut
  cases h1 : decide (x < lo) with
  | true =>
    have hs1 := h1
    (refine SF_of_bodyX (aload tt) (aload_ok tyOK) Tryd.func49 rfl (by kernel_rfl) ?_; simp only [Tryd.ntmps49, List.length_cons, List.length_nil, Nat.reduceAdd, Nat.reduceSub, List.replicate_succ, List.replicate_zero, List.cons_append, List.nil_append])
    (refine Wk.o ?_; (repeat revert hK K); refine Wcb21a ?_; (repeat intro K hK); refine ⟨?_⟩)
    (simp only [bodyX]; refine ⟨_, by simp only [aresults, aresult, XS.as, Tryd.results49, aload, go_sem, Option.bind_some]; rfl, ?_⟩)
    exact ⟨ids_idB rfl, rfl, trivial⟩
  | false =>
    have hs1 := h1
    cases h2 : decide (10000000 < x) with
    | true =>
      have hs2 := h2
      (refine SF_of_bodyX (aload tt) (aload_ok tyOK) Tryd.func49 rfl (by kernel_rfl) ?_; simp only [Tryd.ntmps49, List.length_cons, List.length_nil, Nat.reduceAdd, Nat.reduceSub, List.replicate_succ, List.replicate_zero, List.cons_append, List.nil_append])
      (refine Wk.o ?_; (repeat revert hK K); refine Wcb21a ?_; (repeat intro K hK); refine ⟨?_⟩)
      (simp only [bodyX]; refine ⟨_, by simp only [aresults, aresult, XS.as, Tryd.results49, aload, go_sem, Option.bind_some]; rfl, ?_⟩)
      exact ⟨ids_idB rfl, rfl, trivial⟩
    | false =>
      have hs2 := h2
      (refine SF_of_bodyX (aload tt) (aload_ok tyOK) Tryd.func49 rfl (by kernel_rfl) ?_; simp only [Tryd.ntmps49, List.length_cons, List.length_nil, Nat.reduceAdd, Nat.reduceSub, List.replicate_succ, List.replicate_zero, List.cons_append, List.nil_append])
      (refine Wk.o ?_; (repeat revert hK K); refine Wcb21a ?_; (repeat intro K hK); refine ⟨?_⟩)
      (simp only [bodyX]; refine ⟨_, by simp only [aresults, aresult, XS.as, Tryd.results49, aload, go_sem, Option.bind_some]; rfl, ?_⟩)
      exact ⟨ids_idB rfl, rfl, trivial⟩
set_option maxRecDepth 100000 in
set_option maxHeartbeats 2000000 in
theorem pf_may1 (lo : Int) : PF Tryd.prog 48 [lt (.int .i64 lo)] fun r H' => r = .fn 49 [] [.iv (.ptr (oneP lo) 1)] ∧ H' = [] := by
  refine SF.forgetAll ?_
  have hs1 := trivial; have hs2 := trivial; have hs3 := trivial; have hs4 := trivial; have hs5 := trivial; have hs6 := trivial; have hs7 := trivial; have hs8 := trivial; have hs9 := trivial; have hC1 := trivial; have hC2 := trivial; have hC3 := trivial; have hO := trivial; have hcl := trivial; have hE := trivial
  (refine SF_of_bodyX (aload tt) (aload_ok tyOK) Tryd.func48 rfl (by kernel_rfl) ?_; simp only [Tryd.ntmps48, List.length_cons, List.length_nil, Nat.reduceAdd, Nat.reduceSub, List.replicate_succ, List.replicate_zero, List.cons_append, List.nil_append])
  (repeat (first | (with_reducible first | refine AX_block ?_ | refine AX_skip ?_ | refine AX_exit ?_ | refine AX_ret ?_ | refine AX_ift ?_ | refine AX_iff ?_ | refine AX_seq_k (fun K hK => ?_) | refine ContX.use (by assumption) ?_) | simp only [thenX, inBlockX, if_true, if_false, reduceCtorEq]))
  ((first | (with_reducible refine AX_reg0 fun K hK => ?_) | (refine AX_drawG1 tyOK (by kernel_rfl) (by rfl) (by kernel_rfl) fun K hK => ?_) | (refine AX_drawT tyOK (by kernel_rfl) (by decide +kernel) fun K hK => ?_) | (refine AX_drawM1 (by kernel_rfl) (by rfl) (by decide +kernel) fun K hK => ?_) | (refine AX_drawA tyOK (by kernel_rfl) (by decide +kernel) fun K hK => ?_)); (first | simp only [go_sem, preN, effOp, runF, alM, mapOp, alD2, kdOf2, Bool.not_false, Bool.not_true, reduceCtorEq] | simp only [go_sem, preN, effOp, runF, alM, mapOp, Bool.not_false, Bool.not_true, reduceCtorEq] | simp only [go_sem, preN, effOp, runF, alD2, kdOf2, Bool.not_false, Bool.not_true, reduceCtorEq] | simp only [go_sem, alD2, kdOf2, Bool.not_false, Bool.not_true, reduceCtorEq] | simp only [go_sem, preN, effOp, runF, Bool.not_false, Bool.not_true, reduceCtorEq] | simp only [go_sem]))
  repeat (first | ((first | (with_reducible refine XRes_op tyOK ?_ ?_) | ((with_reducible first | refine ADF_op tyOK ?_ ?_ ?_ | refine ADX_op tyOK ?_ ?_ ?_); (focus rfl)) | (with_reducible refine ADR_alloc1 tyOK ?_ ?_) | ((with_reducible refine ADR_free1 tyOK ?_ ?_ ?_); (focus rfl)) | ((with_reducible refine ADR_free0 tyOK ?_ ?_ ?_); (focus rfl)) | ((with_reducible refine ADR_read1 tyOK ?_ ?_ ?_); (focus rfl)) | (with_reducible refine ADR_chg1 tyOK ?_ ?_)); (focus (first | (with_reducible rfl) | ((simp (disch := omega) only [go_sem]); done))); simp (disch := omega) only [go_sem , iInts, hs1, hs2, hs3, hs4, hs5, hs6, hs7, hs8, hs9, stG_0, stG_1, stG_2, stG_3, oneP, Int.toNat_zero, Int.toNat_one, Int.reduceToNat, Nat.zero_add, Int.toNat_natCast, List.length_nil]; (first | (with_reducible refine XRes_id ?_) | (with_reducible refine ADF_id ?_) | (with_reducible refine ADR_id1 ?_) | (with_reducible refine ADX_id ?_))) | ((first | (with_reducible refine XRes_skip ?_ ?_) | (with_reducible refine ADF_skip (b := true) ?_ ?_) | (with_reducible refine ADX_skip ?_ ?_) | ((with_reducible refine ADR_skip1 ?_ ?_ ?_); (focus rfl))); (focus (first | rfl | ((simp (disch := omega) only [go_sem]); done))); (simp only [putL, List.set_cons_succ, List.set_cons_zero])))
  ((first | (with_reducible refine XRes_nil ?_) | (with_reducible refine ADF_nil ?_) | (with_reducible refine ADR_nil ?_) | (with_reducible refine ADX_nil ?_)); (first | refine hK _ ?_ | refine hK _ _ ?_); clear hK K)
  (repeat (first | (with_reducible first | refine AX_block ?_ | refine AX_skip ?_ | refine AX_exit ?_ | refine AX_ret ?_ | refine AX_ift ?_ | refine AX_iff ?_ | refine AX_seq_k (fun K hK => ?_) | refine ContX.use (by assumption) ?_) | simp only [thenX, inBlockX, if_true, if_false, reduceCtorEq]))
  refine AX_freeze [0] [(1, .iv (.ptr (oneP lo) 1))] (fun p hp => ?_) ?_
  · rw [List.mem_singleton.1 hp]; exact frz_oneP (by decide) rfl
  simp only [setN, updS, List.set_cons_succ, List.set_cons_zero]
  (refine Wk.o ?_; (repeat revert hK K); refine Wcb21a ?_; (repeat intro K hK); refine ⟨?_⟩)
  (simp only [bodyX]; refine ⟨_, by simp only [aresults, aresult, XS.as, Tryd.results48, aload, go_sem, Option.bind_some]; rfl, ?_⟩)
  exact ⟨ids_idB rfl, rfl, trivial⟩
theorem pf_claCheck (xs : List Int) (vars : Int) (hl : xs.length ≤ maxLen) : PF Tryd.prog 50 [.iv (iInts xs), lt (.int .i64 vars)] fun r H' => r = lt (.int .i64 (cCheck xs vars)) ∧ H' = [] :=
  PF_of_walk ⟨_, Tryd.func50, by kernel_rfl, rfl⟩ fun G w vs hi hr => by
    obtain ⟨u, us, rfl, h1, hr⟩ := hr.uncons
    obtain ⟨u2, us, rfl, h2, hr⟩ := hr.uncons
    rw [hr.unnil, h2.lit_inv]
    cases h1 with
    | iv _ _ h1 =>
      obtain ⟨a, ca, rfl, k1, k2, h4⟩ := ints_row hi.fz hl h1
      exact cla_Check a _ ca xs vars w h4
set_option maxRecDepth 100000 in
set_option maxHeartbeats 8000000 in
theorem pf_may (s : Stp) (h1 : s.L.length ≤ 1000000) (h2 : s.H.length ≤ 1000000) : PF Tryd.prog 26 [.agg [lt (.int .i64 s.k), lt (.int .i64 s.i), .iv (iInts s.L), .iv (iInts s.H)]] fun r H' => r = lt (.bool (decide (stOk s))) ∧ H' = [] := by
  refine SF.forgetAll ?_
  have hs1 := trivial; have hs2 := trivial; have hs3 := trivial; have hs4 := trivial; have hs5 := trivial; have hs6 := trivial; have hs7 := trivial; have hs8 := trivial; have hs9 := trivial; have hC1 := trivial; have hC2 := trivial; have hC3 := trivial; have hO := trivial; have hcl := trivial; have hE := trivial
  obtain ⟨k, i, L, H⟩ := s
  dsimp only at *
  have hd : decide (stOk ⟨k, i, L, H⟩) = (if H.length ≤ 1000 ∧ i ≤ 10000000 then (if k = 1 then decide (1 ≤ i) && (cCheck L 100000 == 0) && !H.any (oOut (-10000000)) else if k = 2 then decide (0 ≤ i) && ((L.length : Int) == 0) && !H.any (oOut 1) else false) else false) := by
    have e1 := hOk_is (lo := -10000000) (H := H)
    have e2 := hOk_is (lo := 1) (H := H)
    have hn : ((L.length : Int) == 0) = decide (L = []) := by rw [Bool.eq_iff_iff]; cases L <;> simp; omega
    have e : decide (stOk ⟨k, i, L, H⟩) = ((decide (k = 1) && (decide (1 ≤ i) && decide (i ≤ 10000000)) && (cCheck L 100000 == 0) && decide (hOk (-10000000) H)) || (decide (k = 2) && (decide (0 ≤ i) && decide (i ≤ 10000000)) && decide (L = []) && decide (hOk 1 H))) := by
      rw [Bool.eq_iff_iff]; unfold stOk; simp [and_assoc]
    rw [e, e1, e2, hn]
    by_cases a1 : H.length ≤ 1000 <;> by_cases a2 : i ≤ 10000000 <;> by_cases a3 : k = 1 <;> by_cases a4 : k = 2 <;> simp [a1, a2, a3, a4]
  rw [hd]
  have hC1 := pf_claCheck L 100000 (by unfold maxLen; omega)
  by_cases a1 : H.length ≤ 1000
  · have hs1 : decide ((1000 : Int) < (H.length : Int)) = false := decide_eq_false (by omega)
    by_cases a2 : i ≤ 10000000
    · have hs2 : decide ((10000000 : Int) < i) = false := decide_eq_false (by omega)
      rw [if_pos ⟨a1, a2⟩]
      by_cases a3 : k = 1
      · have hs3 : (k == 1) = true := by simpa using a3
        rw [if_pos a3]
        have hO := pf_may1 (-10000000)
        have hC2 := pf_ctC H _ _ (oOut (-10000000)) h2 (fun x => pf_may11 (-10000000) x)
        generalize H.any (oOut (-10000000)) = bH at *
        generalize hcc : (cCheck L 100000 == 0) = bC at *
        have hs5 := hcc
        generalize hii : decide (1 ≤ i) = bI at *
        have hs6 := hii
        unfold iInts at *
        cases bI with
        | false =>
          (refine SF_of_bodyX (aload tt) (aload_ok tyOK) Tryd.func26 rfl (by kernel_rfl) ?_; simp only [Tryd.ntmps26, List.length_cons, List.length_nil, Nat.reduceAdd, Nat.reduceSub, List.replicate_succ, List.replicate_zero, List.cons_append, List.nil_append])
          (refine Wk.o ?_; (repeat revert hK K); refine Wcb21a ?_; (repeat intro K hK); refine ⟨?_⟩)
          (simp only [bodyX]; refine ⟨_, by simp only [aresults, aresult, XS.as, Tryd.results26, aload, go_sem, Option.bind_some]; rfl, ?_⟩)
          exact ⟨ids_idB rfl, rfl, trivial⟩
        | true =>
          cases bC with
          | false =>
            (refine SF_of_bodyX (aload tt) (aload_ok tyOK) Tryd.func26 rfl (by kernel_rfl) ?_; simp only [Tryd.ntmps26, List.length_cons, List.length_nil, Nat.reduceAdd, Nat.reduceSub, List.replicate_succ, List.replicate_zero, List.cons_append, List.nil_append])
            (refine Wk.o ?_; (repeat revert hK K); refine Wcb21a ?_; (repeat intro K hK); refine ⟨?_⟩)
            (simp only [bodyX]; refine ⟨_, by simp only [aresults, aresult, XS.as, Tryd.results26, aload, go_sem, Option.bind_some]; rfl, ?_⟩)
            exact ⟨ids_idB rfl, rfl, trivial⟩
          | true =>
            cases bH with
            | false =>
              (refine SF_of_bodyX (aload tt) (aload_ok tyOK) Tryd.func26 rfl (by kernel_rfl) ?_; simp only [Tryd.ntmps26, List.length_cons, List.length_nil, Nat.reduceAdd, Nat.reduceSub, List.replicate_succ, List.replicate_zero, List.cons_append, List.nil_append])
              (refine Wk.o ?_; (repeat revert hK K); refine Wcb21a ?_; (repeat intro K hK); refine ⟨?_⟩)
              (simp only [bodyX]; refine ⟨_, by simp only [aresults, aresult, XS.as, Tryd.results26, aload, go_sem, Option.bind_some]; rfl, ?_⟩)
              exact ⟨ids_idB rfl, rfl, trivial⟩
            | true =>
              (refine SF_of_bodyX (aload tt) (aload_ok tyOK) Tryd.func26 rfl (by kernel_rfl) ?_; simp only [Tryd.ntmps26, List.length_cons, List.length_nil, Nat.reduceAdd, Nat.reduceSub, List.replicate_succ, List.replicate_zero, List.cons_append, List.nil_append])
              (refine Wk.o ?_; (repeat revert hK K); refine Wcb21a ?_; (repeat intro K hK); refine ⟨?_⟩)
              (simp only [bodyX]; refine ⟨_, by simp only [aresults, aresult, XS.as, Tryd.results26, aload, go_sem, Option.bind_some]; rfl, ?_⟩)
              exact ⟨ids_idB rfl, rfl, trivial⟩
      · have hs3 : (k == 1) = false := by simpa using a3
        rw [if_neg a3]
        by_cases a4 : k = 2
        · have hs4 : (k == 2) = true := by simpa using a4
          rw [if_pos a4]
          have hO := pf_may1 1
          have hC2 := pf_ctC H _ _ (oOut 1) h2 (fun x => pf_may11 1 x)
          generalize H.any (oOut 1) = bH at *
          generalize hcc : ((L.length : Int) == 0) = bC at *
          have hs5 := hcc
          generalize hii : decide (0 ≤ i) = bI at *
          have hs6 := hii
          unfold iInts at *
          cases bI with
          | false =>
            (refine SF_of_bodyX (aload tt) (aload_ok tyOK) Tryd.func26 rfl (by kernel_rfl) ?_; simp only [Tryd.ntmps26, List.length_cons, List.length_nil, Nat.reduceAdd, Nat.reduceSub, List.replicate_succ, List.replicate_zero, List.cons_append, List.nil_append])
            (refine Wk.o ?_; (repeat revert hK K); refine Wcb21a ?_; (repeat intro K hK); refine ⟨?_⟩)
            (simp only [bodyX]; refine ⟨_, by simp only [aresults, aresult, XS.as, Tryd.results26, aload, go_sem, Option.bind_some]; rfl, ?_⟩)
            exact ⟨ids_idB rfl, rfl, trivial⟩
          | true =>
            cases bC with
            | false =>
              (refine SF_of_bodyX (aload tt) (aload_ok tyOK) Tryd.func26 rfl (by kernel_rfl) ?_; simp only [Tryd.ntmps26, List.length_cons, List.length_nil, Nat.reduceAdd, Nat.reduceSub, List.replicate_succ, List.replicate_zero, List.cons_append, List.nil_append])
              (refine Wk.o ?_; (repeat revert hK K); refine Wcb21a ?_; (repeat intro K hK); refine ⟨?_⟩)
              (simp only [bodyX]; refine ⟨_, by simp only [aresults, aresult, XS.as, Tryd.results26, aload, go_sem, Option.bind_some]; rfl, ?_⟩)
              exact ⟨ids_idB rfl, rfl, trivial⟩
            | true =>
              cases bH with
              | false =>
                (refine SF_of_bodyX (aload tt) (aload_ok tyOK) Tryd.func26 rfl (by kernel_rfl) ?_; simp only [Tryd.ntmps26, List.length_cons, List.length_nil, Nat.reduceAdd, Nat.reduceSub, List.replicate_succ, List.replicate_zero, List.cons_append, List.nil_append])
                (refine Wk.o ?_; (repeat revert hK K); refine Wcb21a ?_; (repeat intro K hK); refine ⟨?_⟩)
                (simp only [bodyX]; refine ⟨_, by simp only [aresults, aresult, XS.as, Tryd.results26, aload, go_sem, Option.bind_some]; rfl, ?_⟩)
                exact ⟨ids_idB rfl, rfl, trivial⟩
              | true =>
                (refine SF_of_bodyX (aload tt) (aload_ok tyOK) Tryd.func26 rfl (by kernel_rfl) ?_; simp only [Tryd.ntmps26, List.length_cons, List.length_nil, Nat.reduceAdd, Nat.reduceSub, List.replicate_succ, List.replicate_zero, List.cons_append, List.nil_append])
                (refine Wk.o ?_; (repeat revert hK K); refine Wcb21a ?_; (repeat intro K hK); refine ⟨?_⟩)
                (simp only [bodyX]; refine ⟨_, by simp only [aresults, aresult, XS.as, Tryd.results26, aload, go_sem, Option.bind_some]; rfl, ?_⟩)
                exact ⟨ids_idB rfl, rfl, trivial⟩
        · have hs4 : (k == 2) = false := by simpa using a4
          rw [if_neg a4]
          unfold iInts at *
          (refine SF_of_bodyX (aload tt) (aload_ok tyOK) Tryd.func26 rfl (by kernel_rfl) ?_; simp only [Tryd.ntmps26, List.length_cons, List.length_nil, Nat.reduceAdd, Nat.reduceSub, List.replicate_succ, List.replicate_zero, List.cons_append, List.nil_append])
          (refine Wk.o ?_; (repeat revert hK K); refine Wcb21a ?_; (repeat intro K hK); refine ⟨?_⟩)
          (simp only [bodyX]; refine ⟨_, by simp only [aresults, aresult, XS.as, Tryd.results26, aload, go_sem, Option.bind_some]; rfl, ?_⟩)
          exact ⟨ids_idB rfl, rfl, trivial⟩
    · have hs2 : decide ((10000000 : Int) < i) = true := decide_eq_true (by omega)
      rw [if_neg fun h => a2 h.2]
      unfold iInts at *
      (refine SF_of_bodyX (aload tt) (aload_ok tyOK) Tryd.func26 rfl (by kernel_rfl) ?_; simp only [Tryd.ntmps26, List.length_cons, List.length_nil, Nat.reduceAdd, Nat.reduceSub, List.replicate_succ, List.replicate_zero, List.cons_append, List.nil_append])
      (refine Wk.o ?_; (repeat revert hK K); refine Wcb21a ?_; (repeat intro K hK); refine ⟨?_⟩)
      (simp only [bodyX]; refine ⟨_, by simp only [aresults, aresult, XS.as, Tryd.results26, aload, go_sem, Option.bind_some]; rfl, ?_⟩)
      exact ⟨ids_idB rfl, rfl, trivial⟩
  · have hs1 : decide ((1000 : Int) < (H.length : Int)) = true := decide_eq_true (by omega)
    rw [if_neg fun h => a1 h.1]
    unfold iInts at *
    (refine SF_of_bodyX (aload tt) (aload_ok tyOK) Tryd.func26 rfl (by kernel_rfl) ?_; simp only [Tryd.ntmps26, List.length_cons, List.length_nil, Nat.reduceAdd, Nat.reduceSub, List.replicate_succ, List.replicate_zero, List.cons_append, List.nil_append])
    (refine Wk.o ?_; (repeat revert hK K); refine Wcb21a ?_; (repeat intro K hK); refine ⟨?_⟩)
    (simp only [bodyX]; refine ⟨_, by simp only [aresults, aresult, XS.as, Tryd.results26, aload, go_sem, Option.bind_some]; rfl, ?_⟩)
    exact ⟨ids_idB rfl, rfl, trivial⟩
end Go.Proofs.YtghdacijcnmhlaaDoor
namespace Go.Proofs.YtghdacijcnmhlaaDoor
open Go.RowKit Go.Lib
set_option linter.unusedVariables false
set_option linter.unusedSimpArgs false
deriving instance DecidableEq for Stp
structure StLen (xs : List Stp) : Prop where
  len : xs.length ≤ 1000000
  row : ∀ k, (stAt xs k).L.length ≤ 1000000 ∧ (stAt xs k).H.length ≤ 1000000
theorem stAt_ext {xs ys : List Stp} (hl : xs.length = ys.length) (h : ∀ k, k < xs.length → stAt xs k = stAt ys k) : xs = ys := by
  apply List.ext_getElem hl
  intro i h1 h2
  have := h i h1
  unfold stAt at this
  simpa [List.getD, h1, h2] using this
theorem pf_slEq (xs ys : List Int) (hx : xs.length ≤ 1000000) (hy : ys.length ≤ 1000000) : PF Tryd.prog 38 [.iv (iInts xs), .iv (iInts ys)] fun r H' => r = lt (.bool (decide (xs = ys))) ∧ H' = [] :=
  PF_of_walk ⟨_, Tryd.func38, by kernel_rfl, rfl⟩ fun G w vs hi hr => by
    obtain ⟨u, us, rfl, h1, hr⟩ := hr.uncons
    obtain ⟨u2, us, rfl, h3, hr⟩ := hr.uncons
    rw [hr.unnil]
    cases h1 with
    | iv _ _ h1 =>
      cases h3 with
      | iv _ _ h3 =>
        obtain ⟨a, ca, rfl, k1, k2, h4⟩ := ints_row hi.fz (by unfold maxLen; omega) h1
        obtain ⟨b, cb, rfl, l1, l2, h5⟩ := ints_row hi.fz (by unfold maxLen; omega) h3
        exact sl_Equal a b _ ca _ cb xs ys w h4 h5
theorem W73d2a {A B : Prop} (h9 : B) (w : B → A := by (intro h9; (repeat intro K hK); refine ⟨?_⟩; (repeat (first | (first | (with_reducible first | refine AX_block ?_ | refine AX_skip ?_ | refine AX_exit ?_ | refine AX_ret ?_ | refine AX_ift ?_ | refine AX_iff ?_ | refine AX_seq_k (fun K hK => ?_) | refine ContX.use (by assumption) ?_) | simp only [thenX, inBlockX, if_true, if_false, reduceCtorEq]) | (first | ((first | (with_reducible refine XRes_op tyOK ?_ ?_) | ((with_reducible first | refine ADF_op tyOK ?_ ?_ ?_ | refine ADX_op tyOK ?_ ?_ ?_); (focus rfl)) | (with_reducible refine ADR_alloc1 tyOK ?_ ?_) | ((with_reducible refine ADR_free1 tyOK ?_ ?_ ?_); (focus rfl)) | ((with_reducible refine ADR_free0 tyOK ?_ ?_ ?_); (focus rfl)) | ((with_reducible refine ADR_read1 tyOK ?_ ?_ ?_); (focus rfl)) | (with_reducible refine ADR_chg1 tyOK ?_ ?_)); (focus (first | (with_reducible rfl) | ((simp (disch := omega) only [go_sem]); done))); simp (disch := omega) only [go_sem , iInts, hs1, hs2, hs3, hs4, hs5, hs6, stG_0, stG_1, stG_2, stG_3, Int.toNat_zero, Int.toNat_one, Int.reduceToNat, Nat.zero_add, Int.toNat_natCast, List.length_nil]; (first | (with_reducible refine XRes_id ?_) | (with_reducible refine ADF_id ?_) | (with_reducible refine ADR_id1 ?_) | (with_reducible refine ADX_id ?_))) | ((first | (with_reducible refine XRes_skip ?_ ?_) | (with_reducible refine ADF_skip (b := true) ?_ ?_) | (with_reducible refine ADX_skip ?_ ?_) | ((with_reducible refine ADR_skip1 ?_ ?_ ?_); (focus rfl))); (focus (first | rfl | ((simp (disch := omega) only [go_sem]); done))); (simp only [putL, List.set_cons_succ, List.set_cons_zero]))) | ((first | (with_reducible refine XRes_nil ?_) | (with_reducible refine ADF_nil ?_) | (with_reducible refine ADR_nil ?_) | (with_reducible refine ADX_nil ?_)); (first | refine hK _ ?_ | refine hK _ _ ?_); clear hK K) | (first | (first | refine XTL (by rfl) hE1 ?_ | refine ATL tyOK (by rfl) hE1 ?_ | refine XTL (by rfl) hE2 ?_ | refine ATL tyOK (by rfl) hE2 ?_) | ((refine XRes_slot (by rfl) rfl (PF.tells (idsA rfl) (fun _ => rfl) hcl) ?_); (rintro r H' ⟨rfl, rfl⟩); (simp only [putL, List.set_cons_succ, List.set_cons_zero]))) | ((with_reducible refine AX_reg0 fun K hK => ?_); simp only [go_sem]) | ((refine AX_drawG1 tyOK (by kernel_rfl) (by rfl) (by kernel_rfl) fun K hK => ?_); (first | simp only [go_sem, preN, effOp, runF, alM, mapOp, alD2, kdOf2, Bool.not_false, Bool.not_true, reduceCtorEq] | simp only [go_sem, preN, effOp, runF, alM, mapOp, Bool.not_false, Bool.not_true, reduceCtorEq] | simp only [go_sem, preN, effOp, runF, alD2, kdOf2, Bool.not_false, Bool.not_true, reduceCtorEq] | simp only [go_sem, alD2, kdOf2, Bool.not_false, Bool.not_true, reduceCtorEq] | simp only [go_sem, preN, effOp, runF, Bool.not_false, Bool.not_true, reduceCtorEq] | simp only [go_sem])))); refine Wk.o ?_; (repeat revert hK K); exact h9)) : A := w h9
set_option maxRecDepth 100000 in
set_option maxHeartbeats 4000000 in
theorem pf_same1 (s t : Stp) (h1 : s.L.length ≤ 1000000) (h2 : s.H.length ≤ 1000000) (h3 : t.L.length ≤ 1000000) (h4 : t.H.length ≤ 1000000) : PF Tryd.prog 37 [.agg [lt (.int .i64 s.k), lt (.int .i64 s.i), .iv (iInts s.L), .iv (iInts s.H)], .agg [lt (.int .i64 t.k), lt (.int .i64 t.i), .iv (iInts t.L), .iv (iInts t.H)]] fun r H' => r = lt (.bool (decide (s = t))) ∧ H' = [] := by
  refine SF.forgetAll ?_
  have hs1 := trivial; have hs2 := trivial; have hs3 := trivial; have hs4 := trivial; have hs5 := trivial; have hs6 := trivial; have hE1 := trivial; have hE2 := trivial; have hcl := trivial
  have hE1 := pf_slEq s.L t.L h1 h3
  have hE2 := pf_slEq s.H t.H h2 h4
  obtain ⟨k, i, L, H⟩ := s
  obtain ⟨k2, i2, L2, H2⟩ := t
  dsimp only at *
  have hd : decide ((⟨k, i, L, H⟩ : Stp) = ⟨k2, i2, L2, H2⟩) = ((k == k2) && (i == i2) && decide (L = L2) && decide (H = H2)) := by
    rw [Bool.eq_iff_iff]; simp [and_assoc]
  rw [hd]
  generalize decide (L = L2) = bL at *
  generalize decide (H = H2) = bH at *
  unfold iInts at *
  cases h5 : (k == k2) with
  | false =>
    have hs1 := h5
    (refine SF_of_bodyX (aload tt) (aload_ok tyOK) Tryd.func37 rfl (by kernel_rfl) ?_; simp only [Tryd.ntmps37, List.length_cons, List.length_nil, Nat.reduceAdd, Nat.reduceSub, List.replicate_succ, List.replicate_zero, List.cons_append, List.nil_append])
    (refine Wk.o ?_; (repeat revert hK K); refine W73d2a ?_; (repeat intro K hK); refine ⟨?_⟩)
    (simp only [bodyX]; refine ⟨_, by simp only [aresults, aresult, XS.as, Tryd.results37, aload, go_sem, Option.bind_some]; rfl, ?_⟩)
    exact ⟨ids_idB rfl, rfl, trivial⟩
  | true =>
    have hs1 := h5
    cases h6 : (i == i2) with
    | false =>
      have hs2 := h6
      (refine SF_of_bodyX (aload tt) (aload_ok tyOK) Tryd.func37 rfl (by kernel_rfl) ?_; simp only [Tryd.ntmps37, List.length_cons, List.length_nil, Nat.reduceAdd, Nat.reduceSub, List.replicate_succ, List.replicate_zero, List.cons_append, List.nil_append])
      (refine Wk.o ?_; (repeat revert hK K); refine W73d2a ?_; (repeat intro K hK); refine ⟨?_⟩)
      (simp only [bodyX]; refine ⟨_, by simp only [aresults, aresult, XS.as, Tryd.results37, aload, go_sem, Option.bind_some]; rfl, ?_⟩)
      exact ⟨ids_idB rfl, rfl, trivial⟩
    | true =>
      have hs2 := h6
      cases bL with
      | false =>
        (refine SF_of_bodyX (aload tt) (aload_ok tyOK) Tryd.func37 rfl (by kernel_rfl) ?_; simp only [Tryd.ntmps37, List.length_cons, List.length_nil, Nat.reduceAdd, Nat.reduceSub, List.replicate_succ, List.replicate_zero, List.cons_append, List.nil_append])
        (refine Wk.o ?_; (repeat revert hK K); refine W73d2a ?_; (repeat intro K hK); refine ⟨?_⟩)
        (simp only [bodyX]; refine ⟨_, by simp only [aresults, aresult, XS.as, Tryd.results37, aload, go_sem, Option.bind_some]; rfl, ?_⟩)
        exact ⟨ids_idB rfl, rfl, trivial⟩
      | true =>
        (refine SF_of_bodyX (aload tt) (aload_ok tyOK) Tryd.func37 rfl (by kernel_rfl) ?_; simp only [Tryd.ntmps37, List.length_cons, List.length_nil, Nat.reduceAdd, Nat.reduceSub, List.replicate_succ, List.replicate_zero, List.cons_append, List.nil_append])
        (refine Wk.o ?_; (repeat revert hK K); refine W73d2a ?_; (repeat intro K hK); refine ⟨?_⟩)
        (simp only [bodyX]; refine ⟨_, by simp only [aresults, aresult, XS.as, Tryd.results37, aload, go_sem, Option.bind_some]; rfl, ?_⟩)
        exact ⟨ids_idB rfl, by cases bH <;> rfl, trivial⟩
set_option maxRecDepth 100000 in
set_option maxHeartbeats 4000000 in
theorem pf_eqF10 (xs ys : List Stp) (hx : StLen xs) (hy : StLen ys) : PF Tryd.prog 36 [.iv (iSts xs), .iv (iSts ys), .fn 37 [] []] fun r H' => r = lt (.bool (decide (xs = ys))) ∧ H' = [] := by
  refine SF.forgetAll ?_
  have hs1 := trivial; have hs2 := trivial; have hs3 := trivial; have hs4 := trivial; have hs5 := trivial; have hs6 := trivial; have hE1 := trivial; have hE2 := trivial; have hcl := trivial
  have hxl := hx.len
  have hyl := hy.len
  unfold iSts
  by_cases hl : xs.length = ys.length
  · have hs1 : ((xs.length : Int) != (ys.length : Int)) = false := by rw [hl]; simp
    (refine SF_of_bodyX (aload tt) (aload_ok tyOK) Tryd.func36 rfl (by kernel_rfl) ?_; simp only [Tryd.ntmps36, List.length_cons, List.length_nil, Nat.reduceAdd, Nat.reduceSub, List.replicate_succ, List.replicate_zero, List.cons_append, List.nil_append])
    (refine Wk.o ?_; (repeat revert hK K); refine W73d2a ?_; (repeat intro K hK); refine ⟨?_⟩)
    (refine AWH (σ := Nat) [18, 19, 20, 21, 8, 7, 22, 23, 24, 25, 9, 26, 27, 28, 29, 30, 6, 31] (fun k => [(17, lint k)]) (fun k => []) (fun k => []) (fun k => k ≤ xs.length ∧ ∀ j, j < k → stAt xs j = stAt ys j) (fun k => xs.length - k) 0 (by first | exact ⟨Nat.zero_le _, fun j h => absurd h (by omega)⟩) ?_; rintro k d fr hfr ⟨hk, hj⟩; simp only [updS, deadS, List.set_cons_succ, List.set_cons_zero, lint] at hfr; subst hfr; (try dsimp only))
    by_cases hlt : k < xs.length
    · have hs3 : decide ((k : Int) < (xs.length : Int)) = true := decide_eq_true (by omega)
      have hcl := pf_same1 (stAt xs k) (stAt ys k) (hx.row k).1 (hx.row k).2 (hy.row k).1 (hy.row k).2
      unfold iInts at hcl
      by_cases he : stAt xs k = stAt ys k
      · rw [decide_eq_true he] at hcl
        (refine Wk.o ?_; (repeat revert hK K); refine W73d2a ?_; (repeat intro K hK); refine ⟨?_⟩)
        exact whx_ren [] (k + 1) ⟨by omega, fun j h => by
          rcases Nat.lt_or_ge j k with h1 | h1
          · exact hj j h1
          · rw [show j = k by omega]; exact he⟩ (by (first | omega | (dsimp only; omega) | (simp only; omega))) rfl (by decide) (by decide) (by (simp (disch := omega) only [go_sem, lint, Nat.reduceEqDiff, List.length_map])) (by (simp (disch := omega) only [go_sem, lint, Nat.reduceEqDiff, List.length_map])) (by (simp (disch := omega) only [go_sem, lint, Nat.reduceEqDiff, List.length_map])) (fun d => by first | ((simp (disch := omega) only [go_sem, lint, Nat.reduceEqDiff, List.length_map]); done) | ((simp (disch := omega) only [go_sem, lint, Nat.reduceEqDiff, List.length_map]); rfl))
      · rw [decide_eq_false he] at hcl
        (refine Wk.o ?_; (repeat revert hK K); refine W73d2a ?_; (repeat intro K hK); refine ⟨?_⟩)
        (simp only [bodyX]; refine ⟨_, by simp only [aresults, aresult, XS.as, Tryd.results36, aload, go_sem, Option.bind_some]; rfl, ?_⟩)
        exact ⟨ids_idB rfl, by rw [decide_eq_false fun e => he (by rw [e])], trivial⟩
    · obtain rfl : k = xs.length := by omega
      have hs3 : decide ((xs.length : Int) < (xs.length : Int)) = false := decide_eq_false (by omega)
      (refine Wk.o ?_; (repeat revert hK K); refine W73d2a ?_; (repeat intro K hK); refine ⟨?_⟩)
      (simp only [bodyX]; refine ⟨_, by simp only [aresults, aresult, XS.as, Tryd.results36, aload, go_sem, Option.bind_some]; rfl, ?_⟩)
      exact ⟨ids_idB rfl, by rw [decide_eq_true (stAt_ext hl hj)], trivial⟩
  · have hs1 : ((xs.length : Int) != (ys.length : Int)) = true := by simp; omega
    (refine SF_of_bodyX (aload tt) (aload_ok tyOK) Tryd.func36 rfl (by kernel_rfl) ?_; simp only [Tryd.ntmps36, List.length_cons, List.length_nil, Nat.reduceAdd, Nat.reduceSub, List.replicate_succ, List.replicate_zero, List.cons_append, List.nil_append])
    (refine Wk.o ?_; (repeat revert hK K); refine W73d2a ?_; (repeat intro K hK); refine ⟨?_⟩)
    (simp only [bodyX]; refine ⟨_, by simp only [aresults, aresult, XS.as, Tryd.results36, aload, go_sem, Option.bind_some]; rfl, ?_⟩)
    exact ⟨ids_idB rfl, by rw [decide_eq_false fun e => hl (by rw [e])], trivial⟩
set_option maxRecDepth 100000 in
set_option maxHeartbeats 4000000 in
theorem pf_prSame (xs ys : List Stp) (hx : StLen xs) (hy : StLen ys) : PF Tryd.prog 18 [.iv (iSts xs), .iv (iSts ys)] fun r H' => r = lt (.bool (decide (xs = ys))) ∧ H' = [] := by
  refine SF.forgetAll ?_
  have hs1 := trivial; have hs2 := trivial; have hs3 := trivial; have hs4 := trivial; have hs5 := trivial; have hs6 := trivial; have hE1 := trivial; have hE2 := trivial; have hcl := trivial
  have hE1 := pf_eqF10 xs ys hx hy
  (refine SF_of_bodyX (aload tt) (aload_ok tyOK) Tryd.func18 rfl (by kernel_rfl) ?_; simp only [Tryd.ntmps18, List.length_cons, List.length_nil, Nat.reduceAdd, Nat.reduceSub, List.replicate_succ, List.replicate_zero, List.cons_append, List.nil_append])
  (refine Wk.o ?_; (repeat revert hK K); refine W73d2a ?_; (repeat intro K hK); refine ⟨?_⟩)
  (simp only [bodyX]; refine ⟨_, by simp only [aresults, aresult, XS.as, Tryd.results18, aload, go_sem, Option.bind_some]; rfl, ?_⟩)
  exact ⟨ids_idB rfl, rfl, trivial⟩
set_option maxRecDepth 100000 in
set_option maxHeartbeats 8000000 in
theorem pf_rpSame (xs ys : List Stp) (hx : StLen xs) (hy : StLen ys) : PF Tryd.prog 10 [.iv (iSts xs), .iv (iSts ys)] fun r H' => r = lt (.bool (decide (xs = ys))) ∧ H' = [] := by
  refine SF.forgetAll ?_
  have hs1 := trivial; have hs2 := trivial; have hs3 := trivial; have hs4 := trivial; have hs5 := trivial; have hs6 := trivial; have hE1 := trivial; have hE2 := trivial; have hcl := trivial
  have hxl := hx.len
  have hyl := hy.len
  unfold iSts
  by_cases hl : xs.length = ys.length
  · have hs1 : ((xs.length : Int) != (ys.length : Int)) = false := by rw [hl]; simp
    (refine SF_of_bodyX (aload tt) (aload_ok tyOK) Tryd.func10 rfl (by kernel_rfl) ?_; simp only [Tryd.ntmps10, List.length_cons, List.length_nil, Nat.reduceAdd, Nat.reduceSub, List.replicate_succ, List.replicate_zero, List.cons_append, List.nil_append])
    (refine Wk.o ?_; (repeat revert hK K); refine W73d2a ?_; (repeat intro K hK); refine ⟨?_⟩)
    (refine AWH (σ := Nat) [11, 12, 13, 14, 17, 18, 19, 20, 21, 22, 23, 24, 25, 26, 27, 28, 29, 30, 31, 32, 33, 34, 35, 36, 37, 38, 39, 40, 41, 42, 43, 44, 45, 46, 47, 48, 49, 50, 51, 52, 53, 54, 55, 56, 57, 58, 59, 60, 61, 62, 63, 64, 65, 66, 67, 68, 4, 15, 16] (fun k => [(5, lint k)]) (fun k => []) (fun k => []) (fun k => k ≤ xs.length ∧ ∀ j, j < k → stAt xs j = stAt ys j) (fun k => xs.length - k) 0 (by first | exact ⟨Nat.zero_le _, fun j h => absurd h (by omega)⟩) ?_; rintro k d fr hfr ⟨hk, hj⟩; simp only [updS, deadS, List.set_cons_succ, List.set_cons_zero, lint] at hfr; subst hfr; (try dsimp only))
    by_cases hlt : k < xs.length
    · have hs3 : decide ((k : Int) < (xs.length : Int)) = true := decide_eq_true (by omega)
      have hE1 := pf_sameInts (stAt xs k).L (stAt ys k).L (hx.row k).1 (hy.row k).1
      have hE2 := pf_sameInts (stAt xs k).H (stAt ys k).H (hx.row k).2 (hy.row k).2
      unfold iInts at hE1 hE2
      have hd : decide (stAt xs k = stAt ys k) = (((stAt xs k).k == (stAt ys k).k) && ((stAt xs k).i == (stAt ys k).i) && decide ((stAt xs k).L = (stAt ys k).L) && decide ((stAt xs k).H = (stAt ys k).H)) := by
        generalize stAt xs k = s
        generalize stAt ys k = t
        obtain ⟨k, i, L, H⟩ := s
        obtain ⟨k2, i2, L2, H2⟩ := t
        rw [Bool.eq_iff_iff]; simp [and_assoc]
      have hnx : stAt xs k = stAt ys k → k + 1 ≤ xs.length ∧ ∀ j, j < k + 1 → stAt xs j = stAt ys j := fun he => ⟨by omega, fun j h => by
          rcases Nat.lt_or_ge j k with h1 | h1
          · exact hj j h1
          · rw [show j = k by omega]; exact he⟩
      have hno : ¬ stAt xs k = stAt ys k → lt (.bool false) = lt (.bool (decide (xs = ys))) := fun he => by rw [decide_eq_false fun e => he (by rw [e])]
      generalize hbL : decide ((stAt xs k).L = (stAt ys k).L) = bL at *
      generalize hbH : decide ((stAt xs k).H = (stAt ys k).H) = bH at *
      cases h5 : ((stAt xs k).k == (stAt ys k).k) with
      | false =>
        have hs4 : ((stAt xs k).k != (stAt ys k).k) = true := by unfold bne; rw [h5]; rfl
        rw [h5] at hd
        (refine Wk.o ?_; (repeat revert hK K); refine W73d2a ?_; (repeat intro K hK); refine ⟨?_⟩)
        (simp only [bodyX]; refine ⟨_, by simp only [aresults, aresult, XS.as, Tryd.results10, aload, go_sem, Option.bind_some]; rfl, ?_⟩)
        exact ⟨ids_idB rfl, hno (of_decide_eq_false hd), trivial⟩
      | true =>
        have hs4 : ((stAt xs k).k != (stAt ys k).k) = false := by unfold bne; rw [h5]; rfl
        rw [h5] at hd
        cases h6 : ((stAt xs k).i == (stAt ys k).i) with
        | false =>
          have hs5 : ((stAt xs k).i != (stAt ys k).i) = true := by unfold bne; rw [h6]; rfl
          rw [h6] at hd
          (refine Wk.o ?_; (repeat revert hK K); refine W73d2a ?_; (repeat intro K hK); refine ⟨?_⟩)
          (simp only [bodyX]; refine ⟨_, by simp only [aresults, aresult, XS.as, Tryd.results10, aload, go_sem, Option.bind_some]; rfl, ?_⟩)
          exact ⟨ids_idB rfl, hno (of_decide_eq_false hd), trivial⟩
        | true =>
          have hs5 : ((stAt xs k).i != (stAt ys k).i) = false := by unfold bne; rw [h6]; rfl
          rw [h6] at hd
          cases bL with
          | false =>
            (refine Wk.o ?_; (repeat revert hK K); refine W73d2a ?_; (repeat intro K hK); refine ⟨?_⟩)
            (simp only [bodyX]; refine ⟨_, by simp only [aresults, aresult, XS.as, Tryd.results10, aload, go_sem, Option.bind_some]; rfl, ?_⟩)
            exact ⟨ids_idB rfl, hno (of_decide_eq_false hd), trivial⟩
          | true =>
            cases bH with
            | false =>
              (refine Wk.o ?_; (repeat revert hK K); refine W73d2a ?_; (repeat intro K hK); refine ⟨?_⟩)
              (simp only [bodyX]; refine ⟨_, by simp only [aresults, aresult, XS.as, Tryd.results10, aload, go_sem, Option.bind_some]; rfl, ?_⟩)
              exact ⟨ids_idB rfl, hno (of_decide_eq_false hd), trivial⟩
            | true =>
              (refine Wk.o ?_; (repeat revert hK K); refine W73d2a ?_; (repeat intro K hK); refine ⟨?_⟩)
              exact WEND (k + 1) (hnx (of_decide_eq_true hd)) (by (first | omega | (dsimp only; omega) | (simp only; omega)))
    · obtain rfl : k = xs.length := by omega
      have hs3 : decide ((xs.length : Int) < (xs.length : Int)) = false := decide_eq_false (by omega)
      (refine Wk.o ?_; (repeat revert hK K); refine W73d2a ?_; (repeat intro K hK); refine ⟨?_⟩)
      (simp only [bodyX]; refine ⟨_, by simp only [aresults, aresult, XS.as, Tryd.results10, aload, go_sem, Option.bind_some]; rfl, ?_⟩)
      exact ⟨ids_idB rfl, by rw [decide_eq_true (stAt_ext hl hj)], trivial⟩
  · have hs1 : ((xs.length : Int) != (ys.length : Int)) = true := by simp; omega
    (refine SF_of_bodyX (aload tt) (aload_ok tyOK) Tryd.func10 rfl (by kernel_rfl) ?_; simp only [Tryd.ntmps10, List.length_cons, List.length_nil, Nat.reduceAdd, Nat.reduceSub, List.replicate_succ, List.replicate_zero, List.cons_append, List.nil_append])
    (refine Wk.o ?_; (repeat revert hK K); refine W73d2a ?_; (repeat intro K hK); refine ⟨?_⟩)
    (simp only [bodyX]; refine ⟨_, by simp only [aresults, aresult, XS.as, Tryd.results10, aload, go_sem, Option.bind_some]; rfl, ?_⟩)
    exact ⟨ids_idB rfl, by rw [decide_eq_false fun e => hl (by rw [e])], trivial⟩
end Go.Proofs.YtghdacijcnmhlaaDoor
