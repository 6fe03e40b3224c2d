import Derived.Test.YthgmjboldboclaaDoorMgAI
import Derived.Test.YthgmjboldboclaaDoorMgAH
import Derived.Test.YthgmjboldboclaaDoorMgBB
import Derived.Test.YthgmjboldboclaaDoorMgBC
import Derived.Test.YthgmjboldboclaaDoorMgBA
import Derived.Test.YthgmjboldboclaaDoorMgBD
import Derived.Test.YthgmjboldboclaaDoorMgBV
import Derived.Test.YthgmjboldboclaaDoorMgBU
import Derived.Test.YthgmjboldboclaaDoorMgBN
import Derived.Test.YthgmjboldboclaaDoorMgBT
import Derived.Test.YthgmjboldboclaaDoorMgBS
import Derived.Test.YthgmjboldboclaaDoorMgBH
import Derived.Test.YthgmjboldboclaaDoorMgBP
import Derived.Test.YthgmjboldboclaaDoorMgAS
import Derived.Test.YthgmjboldboclaaDoorMgAU
namespace Go.Proofs.YthgmjboldboclaaDoor
open Go.RowKit
set_option linter.unusedVariables false
set_option linter.unusedSimpArgs false
set_option linter.unusedVariables false
set_option linter.unusedSimpArgs false
theorem short_max {xss : List (List Int)} {n : Nat} (h : ShortR xss n) (hn : n ≤ 1000000000) : ∀ xs ∈ xss, xs.length ≤ maxLen := fun xs hx => by have := h xs hx; unfold maxLen; omega
theorem tup2 (a b : Value) (G : Gh) : RA 0 G (.tup [lt a, lt b]) (.tuple #[a, b]) := .tup [lt a, lt b] [a, b] rfl (RL.two (.iv _ _ (.lit _)) (.iv _ _ (.lit _))).2
theorem pf_Check (vars : Int) (xss : List (List Int)) (hl : xss.length ≤ 1000000) (hs : ShortR xss 100000) : PF Tryd.prog 16 [aForm vars xss] fun r H' => r = .tup [lint (fAt vars xss), lint (fErr vars xss)] ∧ H' = [] :=
  PF_of_walk2 ⟨_, Tryd.func16, by kernel_rfl, rfl⟩ (tup2 _ _) fun G w vs hi hr => by
    obtain ⟨v, us, rfl, h1, hr⟩ := hr.uncons
    rw [hr.unnil]
    obtain ⟨a, cap, rfl, h2⟩ := form_open hi (by unfold maxLen; omega) (short_max hs (by omega)) h1
    exact cnf_Check vars a _ cap xss w h2 hs
theorem pf_Few (vars : Int) (xss : List (List Int)) (hl : xss.length ≤ maxLen) (hs : ∀ xs ∈ xss, xs.length ≤ maxLen) : PF Tryd.prog 11 [aForm vars xss] fun r H' => r = lt (.bool (fFew xss)) ∧ H' = [] :=
  PF_of_walk ⟨_, Tryd.func11, by kernel_rfl, rfl⟩ fun G w vs hi hr => by
    obtain ⟨u, us, rfl, h1, hr⟩ := hr.uncons
    rw [hr.unnil]
    obtain ⟨a, cap, rfl, h2⟩ := form_open hi hl hs h1
    exact law_Few vars a _ cap xss w h2
theorem pf_Same (v1 v2 : Int) (xss yss : List (List Int)) (hl : xss.length ≤ 1000000) (hs : ShortR xss 100000) (hl2 : yss.length ≤ 1000000) (hs2 : ShortR yss 100000) : PF Tryd.prog 17 [aForm v1 xss, aForm v2 yss] fun r H' => r = lt (.bool (fSame v1 v2 xss yss)) ∧ H' = [] :=
  PF_of_walk ⟨_, Tryd.func17, by kernel_rfl, rfl⟩ fun G w vs hi hr => by
    obtain ⟨u, us, rfl, h1, hr⟩ := hr.uncons
    obtain ⟨u2, us, rfl, h3, hr⟩ := hr.uncons
    rw [hr.unnil]
    obtain ⟨a, cap, rfl, h2⟩ := form_open hi (by unfold maxLen; omega) (short_max hs (by omega)) h1
    obtain ⟨b, cb, rfl, h4⟩ := form_open hi (by unfold maxLen; omega) (short_max hs2 (by omega)) h3
    exact cnf_Same v1 v2 a b _ cap _ cb xss yss w h2 h4
theorem pf_r02TautF (xs : List Int) (hl : xs.length ≤ 1000000) : PF Tryd.prog 53 [.iv (iInts xs)] fun r H' => r = lt (.bool (cTaut xs)) ∧ H' = [] :=
  PF_of_walk ⟨_, Tryd.func53, by kernel_rfl, rfl⟩ fun G w vs hi hr => by
    obtain ⟨u, us, rfl, h1, hr⟩ := hr.uncons
    rw [hr.unnil]
    cases h1 with
    | iv _ _ h1 =>
      obtain ⟨a, ca, rfl, k1, k2, h4⟩ := ints_row hi.fz (by unfold maxLen; omega) h1
      exact (ref_Taut02 a _ ca xs w h4).mono fun e w' h => ⟨h.1, h.2 ▸ Below.refl _ _⟩
theorem pf_r01CheckF (x V : Int) : PF Tryd.prog 64 [lt (.int .i64 x), lt (.int .i64 V)] fun r H' => r = lt (.int .i64 (lcheck x V)) ∧ H' = [] :=
  PF_of_walk ⟨_, Tryd.func64, by kernel_rfl, rfl⟩ fun G w vs hi hr => by
    obtain ⟨u, us, rfl, h1, hr⟩ := hr.uncons
    obtain ⟨u2, us, rfl, h2, hr⟩ := hr.uncons
    rw [hr.unnil, h1.lit_inv, h2.lit_inv]
    exact (ref_Check x V w).mono fun e w' h => ⟨h.1, h.2 ▸ Below.refl _ _⟩
theorem ra_takeF {n : Nat} {G : Gh} {c : List Int} {k : Nat} (hk : k ≤ c.length) {v : Value} (h : RA n G (.iv (.sl (fun j => .lit (.int .i64 (c.getD j 0))) k 1)) v) : RA n G (.iv (iInts (c.take k))) v := by
  have hl : (c.take k).length = k := by rw [List.length_take]; omega
  unfold iInts
  rw [hl]
  refine RA.congr h fun j hj => ?_
  have hj2 : j < k := by omega
  simp only [List.getD_eq_getElem?_getD, List.getElem?_take_of_lt hj2]
theorem pf_hasF (c : List Int) (k : Nat) (v : Int) (hk : k ≤ c.length) (hc : c.length ≤ 1000000) : PF Tryd.prog 25 [.iv (.sl (fun j => .lit (.int .i64 (c.getD j 0))) k 1), lt (.int .i64 v)] fun r H' => r = lt (.bool (decide (v ∈ c.take k))) ∧ H' = [] :=
  SF.args (pf_has (c.take k) v (by rw [List.length_take]; omega)) fun G vs h => by
    obtain ⟨u, us, rfl, h1, h2⟩ := h.uncons
    exact RL.cons (ra_takeF hk h1) h2
theorem nodup_take {c : List Int} {k : Nat} (h : k < c.length) : (c.take (k + 1)).Nodup ↔ (c.take k).Nodup ∧ c.getD k 0 ∉ c.take k := by
  rw [List.take_add_one, List.getElem?_eq_getElem h, List.getD_eq_getElem?_getD, List.getElem?_eq_getElem h]
  simp only [Option.toList_some, Option.getD_some, List.nodup_append]
  constructor
  · rintro ⟨h1, _, h3⟩
    exact ⟨h1, fun hm => h3 _ hm _ (by simp) rfl⟩
  · rintro ⟨h1, h2⟩
    refine ⟨h1, by simp, fun a ha b hb e => ?_⟩
    simp at hb; subst hb; subst e; exact h2 ha
theorem nodup_take_of {c : List Int} (h : c.Nodup) (k : Nat) : (c.take k).Nodup := List.Sublist.nodup (List.take_sublist k c) h
theorem W171fa {A B : Prop} (h9 : B) (w : B → A := by (intro h9; (repeat intro K hK); refine ⟨?_⟩; (repeat (first | (first | (with_reducible first | refine AX_block ?_ | refine AX_skip ?_ | refine AX_exit ?_ | refine AX_ret ?_ | refine AX_ift ?_ | refine AX_iff ?_ | refine AX_seq_k (fun K hK => ?_) | refine ContX.use (by assumption) ?_) | simp only [thenX, inBlockX, if_true, if_false, reduceCtorEq]) | (first | ((first | (with_reducible refine XRes_op tyOK ?_ ?_) | ((with_reducible first | refine ADF_op tyOK ?_ ?_ ?_ | refine ADX_op tyOK ?_ ?_ ?_); (focus rfl)) | (with_reducible refine ADR_alloc1 tyOK ?_ ?_) | ((with_reducible refine ADR_free1 tyOK ?_ ?_ ?_); (focus rfl)) | ((with_reducible refine ADR_free0 tyOK ?_ ?_ ?_); (focus rfl)) | ((with_reducible refine ADR_read1 tyOK ?_ ?_ ?_); (focus rfl)) | (with_reducible refine ADR_chg1 tyOK ?_ ?_)); (focus (first | (with_reducible rfl) | ((simp (disch := omega) only [go_sem]); done))); simp (disch := omega) only [go_sem , iInts, iRows, hs1, hs2, hs3, List.length_nil]; (first | (with_reducible refine XRes_id ?_) | (with_reducible refine ADF_id ?_) | (with_reducible refine ADR_id1 ?_) | (with_reducible refine ADX_id ?_))) | ((first | (with_reducible refine XRes_skip ?_ ?_) | (with_reducible refine ADF_skip (b := true) ?_ ?_) | (with_reducible refine ADX_skip ?_ ?_) | ((with_reducible refine ADR_skip1 ?_ ?_ ?_); (focus rfl))); (focus (first | rfl | ((simp (disch := omega) only [go_sem]); done))); (simp only [putL, List.set_cons_succ, List.set_cons_zero]))) | ((first | (with_reducible refine XRes_nil ?_) | (with_reducible refine ADF_nil ?_) | (with_reducible refine ADR_nil ?_) | (with_reducible refine ADX_nil ?_)); (first | refine hK _ ?_ | refine hK _ _ ?_); clear hK K) | ((first | (with_reducible refine AX_reg0 fun K hK => ?_) | (refine AX_drawG1 tyOK (by kernel_rfl) (by rfl) (by kernel_rfl) fun K hK => ?_) | (refine AX_drawT tyOK (by kernel_rfl) (by decide +kernel) fun K hK => ?_) | (refine AX_drawM1 (by kernel_rfl) (by rfl) (by decide +kernel) fun K hK => ?_) | (refine AX_drawA tyOK (by kernel_rfl) (by decide +kernel) fun K hK => ?_)); (first | simp only [go_sem, preN, effOp, runF, alM, mapOp, alD2, kdOf2, Bool.not_false, Bool.not_true, reduceCtorEq] | simp only [go_sem, preN, effOp, runF, alM, mapOp, Bool.not_false, Bool.not_true, reduceCtorEq] | simp only [go_sem, preN, effOp, runF, alD2, kdOf2, Bool.not_false, Bool.not_true, reduceCtorEq] | simp only [go_sem, alD2, kdOf2, Bool.not_false, Bool.not_true, reduceCtorEq] | simp only [go_sem, preN, effOp, runF, Bool.not_false, Bool.not_true, reduceCtorEq] | simp only [go_sem])) | (first | (first | refine XTL (by rfl) hC ?_ | refine ATL tyOK (by rfl) hC ?_ | refine XTL (by rfl) hS ?_ | refine ATL tyOK (by rfl) hS ?_)))); refine Wk.o ?_; (repeat revert hK K); exact h9)) : A := w h9
set_option maxRecDepth 100000 in
set_option maxHeartbeats 4000000 in
theorem pf_r02Check (c : List Int) (V : Int) (hl : c.length ≤ 1000000) : PF Tryd.prog 52 [.iv (iInts c), lt (.int .i64 V)] fun r H' => r = lt (.int .i64 (cCheck c V)) ∧ H' = [] := by
  refine SF.forgetAll ?_
  have hs1 := trivial; have hs2 := trivial; have hs3 := trivial; have hs4 := trivial; have hC := trivial; have hS := trivial
  by_cases hV : V < 0 ∨ 100000 < V
  · rw [show cCheck c V = 2 from if_pos hV]
    by_cases hV1 : V < 0
    · have hs1 : decide (V < 0) = true := decide_eq_true hV1
      (refine SF_of_bodyX (aload tt) (aload_ok tyOK) Tryd.func52 rfl (by kernel_rfl) ?_; simp only [Tryd.ntmps52, List.length_cons, List.length_nil, Nat.reduceAdd, Nat.reduceSub, List.replicate_succ, List.replicate_zero, List.cons_append, List.nil_append])
      (refine Wk.o ?_; (repeat revert hK K); refine W171fa ?_; (repeat intro K hK); refine ⟨?_⟩)
      (simp only [bodyX]; refine ⟨_, by simp only [aresults, aresult, XS.as, Tryd.results52, aload, go_sem, Option.bind_some]; rfl, ?_⟩)
      exact ⟨ids_idB rfl, rfl, trivial⟩
    · have hs1 : decide (V < 0) = false := decide_eq_false hV1
      have hs2 : decide (100000 < V) = true := decide_eq_true (by omega)
      (refine SF_of_bodyX (aload tt) (aload_ok tyOK) Tryd.func52 rfl (by kernel_rfl) ?_; simp only [Tryd.ntmps52, List.length_cons, List.length_nil, Nat.reduceAdd, Nat.reduceSub, List.replicate_succ, List.replicate_zero, List.cons_append, List.nil_append])
      (refine Wk.o ?_; (repeat revert hK K); refine W171fa ?_; (repeat intro K hK); refine ⟨?_⟩)
      (simp only [bodyX]; refine ⟨_, by simp only [aresults, aresult, XS.as, Tryd.results52, aload, go_sem, Option.bind_some]; rfl, ?_⟩)
      exact ⟨ids_idB rfl, rfl, trivial⟩
  · have hs1 : decide (V < 0) = false := decide_eq_false (by omega)
    have hs2 : decide (100000 < V) = false := decide_eq_false (by omega)
    have hcc : cCheck c V = if 1000 < c.length then 3 else if (c.all fun x => lcheck x V == 0) = false then 10 else if c.Nodup then 0 else 21 := by unfold cCheck; rw [if_neg hV]
    by_cases hb : 1000 < c.length
    · rw [if_pos hb] at hcc
      rw [hcc]
      have hs3 : decide ((1000 : Int) < (c.length : Int)) = true := decide_eq_true (by omega)
      (refine SF_of_bodyX (aload tt) (aload_ok tyOK) Tryd.func52 rfl (by kernel_rfl) ?_; simp only [Tryd.ntmps52, List.length_cons, List.length_nil, Nat.reduceAdd, Nat.reduceSub, List.replicate_succ, List.replicate_zero, List.cons_append, List.nil_append])
      unfold iInts
      (refine Wk.o ?_; (repeat revert hK K); refine W171fa ?_; (repeat intro K hK); refine ⟨?_⟩)
      (simp only [bodyX]; refine ⟨_, by simp only [aresults, aresult, XS.as, Tryd.results52, aload, go_sem, Option.bind_some]; rfl, ?_⟩)
      exact ⟨ids_idB rfl, rfl, trivial⟩
    · rw [if_neg hb] at hcc
      have hs3 : decide ((1000 : Int) < (c.length : Int)) = false := decide_eq_false (by omega)
      (refine SF_of_bodyX (aload tt) (aload_ok tyOK) Tryd.func52 rfl (by kernel_rfl) ?_; simp only [Tryd.ntmps52, List.length_cons, List.length_nil, Nat.reduceAdd, Nat.reduceSub, List.replicate_succ, List.replicate_zero, List.cons_append, List.nil_append])
      unfold iInts
      (refine Wk.o ?_; (repeat revert hK K); refine W171fa ?_; (repeat intro K hK); refine ⟨?_⟩)
      (refine AWH (σ := Nat) [16, 17, 18, 19, 22, 23, 24, 25, 26, 27, 28, 4, 20, 21] (fun k => [(5, lint k)]) (fun k => []) (fun k => []) (fun k => k ≤ c.length ∧ ∀ j, j < k → lcheck (c.getD j 0) V = 0) (fun k => c.length - k) 0 (by first | exact ⟨Nat.zero_le _, fun j h => absurd h (by omega)⟩) ?_; rintro k d fr hfr ⟨hk, hj⟩; simp only [updS, deadS, List.set_cons_succ, List.set_cons_zero, lint] at hfr; subst hfr; (try dsimp only))
      by_cases hlt : k < c.length
      · have hC := pf_r01CheckF (c.getD k 0) V
        by_cases he : lcheck (c.getD k 0) V = 0
        · rw [he] at hC
          (refine Wk.o ?_; (repeat revert hK K); refine W171fa ?_; (repeat intro K hK); refine ⟨?_⟩)
          exact whx_end (k + 1) ⟨by omega, fun j h1 => by
            rcases Nat.lt_or_ge j k with h3 | h3
            · exact hj j h3
            · rw [show j = k by omega, he]⟩ (by (first | omega | (dsimp only; omega) | (simp only; omega))) rfl (by first | rfl | (simp (disch := omega) only [go_sem, lint])) (fun d => by first | ((simp only [deadS, updS, List.set_cons_succ, List.set_cons_zero, lint, List.length_nil, List.length_cons]); done) | ((simp only [deadS, updS, List.set_cons_succ, List.set_cons_zero, lint, List.length_nil, List.length_cons]); rfl) | rfl)
        · have hall : (c.all fun x => lcheck x V == 0) = false := by
            rw [List.all_eq_false]
            exact ⟨c[k], List.getElem_mem hlt, by rw [List.getD_eq_getElem?_getD, List.getElem?_eq_getElem hlt] at he; simpa using he⟩
          rw [if_pos hall] at hcc
          have hs4 : (lcheck (c.getD k 0) V != 0) = true := by simpa using he
          generalize lcheck (c.getD k 0) V = e at *
          (refine Wk.o ?_; (repeat revert hK K); refine W171fa ?_; (repeat intro K hK); refine ⟨?_⟩)
          (simp only [bodyX]; refine ⟨_, by simp only [aresults, aresult, XS.as, Tryd.results52, aload, go_sem, Option.bind_some]; rfl, ?_⟩)
          exact ⟨ids_idB rfl, by rw [hcc], trivial⟩
      · obtain rfl : k = c.length := by omega
        have hall : (c.all fun x => lcheck x V == 0) = true := by
          rw [List.all_eq_true]
          intro x hx
          obtain ⟨j, hj2, rfl⟩ := List.mem_iff_getElem.1 hx
          have := hj j hj2
          rw [List.getD_eq_getElem?_getD, List.getElem?_eq_getElem hj2] at this
          simpa using this
        rw [if_neg (by rw [hall]; simp)] at hcc
        (refine Wk.o ?_; (repeat revert hK K); refine W171fa ?_; (repeat intro K hK); refine ⟨?_⟩)
        (refine AWH (σ := Nat) [29, 30, 31, 32, 35, 36, 37, 38, 39, 40, 41, 42, 4, 33, 34] (fun k => [(6, lint k)]) (fun k => []) (fun k => []) (fun k => k ≤ c.length ∧ (c.take k).Nodup) (fun k => c.length - k) 0 (by first | exact ⟨Nat.zero_le _, by simp⟩) ?_; rintro k d fr hfr ⟨hk2, hn⟩; simp only [updS, deadS, List.set_cons_succ, List.set_cons_zero, lint] at hfr; subst hfr; (try dsimp only))
        by_cases hlt2 : k < c.length
        · have hC := pf_hasF c k (c.getD k 0) hk2 hl
          by_cases hm : c.getD k 0 ∈ c.take k
          · rw [decide_eq_true hm] at hC
            rw [if_neg (fun h => ((nodup_take hlt2).1 (nodup_take_of h _)).2 hm)] at hcc
            (refine Wk.o ?_; (repeat revert hK K); refine W171fa ?_; (repeat intro K hK); refine ⟨?_⟩)
            (simp only [bodyX]; refine ⟨_, by simp only [aresults, aresult, XS.as, Tryd.results52, aload, go_sem, Option.bind_some]; rfl, ?_⟩)
            exact ⟨ids_idB rfl, by rw [hcc], trivial⟩
          · rw [decide_eq_false hm] at hC
            (refine Wk.o ?_; (repeat revert hK K); refine W171fa ?_; (repeat intro K hK); refine ⟨?_⟩)
            exact WEND (k + 1) ⟨by omega, (nodup_take hlt2).2 ⟨hn, hm⟩⟩ (by (first | omega | (dsimp only; omega) | (simp only; omega)))
        · obtain rfl : k = c.length := by omega
          rw [List.take_length] at hn
          rw [if_pos hn] at hcc
          (refine Wk.o ?_; (repeat revert hK K); refine W171fa ?_; (repeat intro K hK); refine ⟨?_⟩)
          (simp only [bodyX]; refine ⟨_, by simp only [aresults, aresult, XS.as, Tryd.results52, aload, go_sem, Option.bind_some]; rfl, ?_⟩)
          exact ⟨ids_idB rfl, by rw [hcc], trivial⟩
set_option maxRecDepth 100000 in
set_option maxHeartbeats 4000000 in
theorem pf_r04Check (V : Int) (xss : List (List Int)) (hl : xss.length ≤ 1000000) (hs : ShortR xss 100000) : PF Tryd.prog 32 [aForm V xss] fun r H' => r = .tup [lint (fAt V xss), lint (fErr V xss)] ∧ H' = [] := by
  refine SF.forgetAll ?_
  have hs1 := trivial; have hs2 := trivial; have hs3 := trivial; have hs4 := trivial; have hC := trivial; have hS := trivial
  unfold aForm iRows lint
  by_cases hV : V < 0 ∨ 100000 < V
  · rw [show fAt V xss = 0 from if_pos hV, show fErr V xss = 2 from if_pos hV]
    by_cases hV1 : V < 0
    · have hs1 : decide (V < 0) = true := decide_eq_true hV1
      (refine SF_of_bodyX (aload tt) (aload_ok tyOK) Tryd.func32 rfl (by kernel_rfl) ?_; simp only [Tryd.ntmps32, List.length_cons, List.length_nil, Nat.reduceAdd, Nat.reduceSub, List.replicate_succ, List.replicate_zero, List.cons_append, List.nil_append])
      (refine Wk.o ?_; (repeat revert hK K); refine W171fa ?_; (repeat intro K hK); refine ⟨?_⟩)
      (simp only [bodyX]; refine ⟨_, by simp only [aresults, aresult, XS.as, Tryd.results32, aload, go_sem, Option.bind_some]; rfl, ?_⟩)
      exact ⟨ids_idB rfl, rfl, trivial⟩
    · have hs1 : decide (V < 0) = false := decide_eq_false hV1
      have hs2 : decide (100000 < V) = true := decide_eq_true (by omega)
      (refine SF_of_bodyX (aload tt) (aload_ok tyOK) Tryd.func32 rfl (by kernel_rfl) ?_; simp only [Tryd.ntmps32, List.length_cons, List.length_nil, Nat.reduceAdd, Nat.reduceSub, List.replicate_succ, List.replicate_zero, List.cons_append, List.nil_append])
      (refine Wk.o ?_; (repeat revert hK K); refine W171fa ?_; (repeat intro K hK); refine ⟨?_⟩)
      (simp only [bodyX]; refine ⟨_, by simp only [aresults, aresult, XS.as, Tryd.results32, aload, go_sem, Option.bind_some]; rfl, ?_⟩)
      exact ⟨ids_idB rfl, rfl, trivial⟩
  · have hfa : fAt V xss = if fBad V xss = -1 then (xss.length : Int) else fBad V xss := by unfold fAt; rw [if_neg hV, if_neg (by omega)]
    have hfe : fErr V xss = if fBad V xss = -1 then 0 else fChk V (xss.getD (fBad V xss).toNat []) := by unfold fErr; rw [if_neg hV, if_neg (by omega)]
    have hs1 : decide (V < 0) = false := decide_eq_false (by omega)
    have hs2 : decide (100000 < V) = false := decide_eq_false (by omega)
    have hs3 : decide ((1000000 : Int) < (xss.length : Int)) = false := decide_eq_false (by omega)
    (refine SF_of_bodyX (aload tt) (aload_ok tyOK) Tryd.func32 rfl (by kernel_rfl) ?_; simp only [Tryd.ntmps32, List.length_cons, List.length_nil, Nat.reduceAdd, Nat.reduceSub, List.replicate_succ, List.replicate_zero, List.cons_append, List.nil_append])
    (refine Wk.o ?_; (repeat revert hK K); refine W171fa ?_; (repeat intro K hK); refine ⟨?_⟩)
    (refine AWH (σ := Nat) [18, 19, 20, 21, 22, 25, 26, 27, 28, 29, 30, 31, 32, 5, 33, 34, 35, 36, 2, 3, 37, 38, 39, 40, 41, 42, 43, 23, 24] (fun k => [(4, lint k)]) (fun k => [some ⟨25, [lt (.int .i64 V), .iv (.sl (fun j => iInts (xss.getD j [])) xss.length 1)]⟩]) (fun k => []) (fun k => k ≤ xss.length ∧ ∀ j, j < k → fChk V (xss.getD j []) = 0) (fun k => xss.length - k) 0 (by first | exact ⟨Nat.zero_le _, fun j h => absurd h (by omega)⟩) ?_; rintro k d fr hfr ⟨hk, hj⟩; simp only [updS, deadS, List.set_cons_succ, List.set_cons_zero, lint] at hfr; subst hfr; (try dsimp only))
    by_cases hlt : k < xss.length
    · have hsh : (xss.getD k []).length ≤ 1000000 := by
        have := hs (xss.getD k []) (by rw [List.getD_eq_getElem?_getD, List.getElem?_eq_getElem hlt]; exact List.getElem_mem hlt)
        omega
      have hC := pf_r02Check (xss.getD k []) V hsh
      have hS := pf_r02TautF (xss.getD k []) hsh
      have hch : fChk V (xss.getD k []) = if cCheck (xss.getD k []) V ≠ 0 then cCheck (xss.getD k []) V else if cTaut (xss.getD k []) = true then 11 else 0 := rfl
      have hbad : fChk V (xss.getD k []) ≠ 0 → fBad V xss = (k : Int) := fun h => fFind_at hlt (fun j h1 => by simpa using hj j h1) (by simpa using h)
      unfold iInts at hC hS
      generalize cCheck (xss.getD k []) V = e at *
      generalize cTaut (xss.getD k []) = b at *
      by_cases he : e = 0
      · subst he
        rw [if_neg (by simp)] at hch
        cases b with
        | false =>
          (refine Wk.o ?_; (repeat revert hK K); refine W171fa ?_; (repeat intro K hK); refine ⟨?_⟩)
          exact whx_end (k + 1) ⟨by omega, fun j h1 => by
            rcases Nat.lt_or_ge j k with h3 | h3
            · exact hj j h3
            · rw [show j = k by omega, hch]; rfl⟩ (by (first | omega | (dsimp only; omega) | (simp only; omega))) rfl (by first | rfl | (simp (disch := omega) only [go_sem, lint])) (fun d => by first | ((simp only [deadS, updS, List.set_cons_succ, List.set_cons_zero, lint, List.length_nil, List.length_cons]); done) | ((simp only [deadS, updS, List.set_cons_succ, List.set_cons_zero, lint, List.length_nil, List.length_cons]); rfl) | rfl)
        | true =>
          rw [if_pos rfl] at hch
          have hb := hbad (by rw [hch]; decide)
          rw [hb, if_neg (by omega)] at hfa hfe
          rw [Int.toNat_natCast, hch] at hfe
          (refine Wk.o ?_; (repeat revert hK K); refine W171fa ?_; (repeat intro K hK); refine ⟨?_⟩)
          (simp only [bodyX]; refine ⟨_, by simp only [aresults, aresult, XS.as, Tryd.results32, aload, go_sem, Option.bind_some]; rfl, ?_⟩)
          exact ⟨ids_idB rfl, by rw [hfa, hfe], trivial⟩
      · rw [if_pos he] at hch
        have hb := hbad (by rw [hch]; exact he)
        rw [hb, if_neg (by omega)] at hfa hfe
        rw [Int.toNat_natCast, hch] at hfe
        have hs4 : (e != 0) = true := by simpa using he
        (refine Wk.o ?_; (repeat revert hK K); refine W171fa ?_; (repeat intro K hK); refine ⟨?_⟩)
        (simp only [bodyX]; refine ⟨_, by simp only [aresults, aresult, XS.as, Tryd.results32, aload, go_sem, Option.bind_some]; rfl, ?_⟩)
        exact ⟨ids_idB rfl, by rw [hfa, hfe], trivial⟩
    · obtain rfl : k = xss.length := by omega
      have hb : fBad V xss = -1 := by unfold fBad fFind; rw [if_neg (by rw [fFind_no (d := []) (fun j h => by simpa using hj j h)]; simp)]
      rw [hb, if_pos rfl] at hfa hfe
      (refine Wk.o ?_; (repeat revert hK K); refine W171fa ?_; (repeat intro K hK); refine ⟨?_⟩)
      (simp only [bodyX]; refine ⟨_, by simp only [aresults, aresult, XS.as, Tryd.results32, aload, go_sem, Option.bind_some]; rfl, ?_⟩)
      exact ⟨ids_idB rfl, by rw [hfa, hfe], trivial⟩
set_option maxRecDepth 100000 in
set_option maxHeartbeats 1000000 in
theorem pf_rowsSelf6 (A : List (List Int)) (hA : A.length ≤ 1000000) (hr : ∀ k, (A.getD k []).length ≤ 1000000) : PF Tryd.prog 26 [.iv (iRows A), .iv (iRows A)] fun r H' => r = lt (.bool true) ∧ H' = [] := by
  refine SF.forgetAll ?_
  have hs1 := trivial; have hs2 := trivial; have hs3 := trivial; have hS := trivial
  have hSm := fun k => pf_sameInts (A.getD k []) (A.getD k []) (hr k) (hr k)
  simp only [decide_true] at hSm
  have hC := trivial
  (refine SF_of_bodyX (aload tt) (aload_ok tyOK) Tryd.func26 rfl (by kernel_rfl) ?_; simp only [Tryd.ntmps26, List.length_cons, List.length_nil, Nat.reduceAdd, Nat.reduceSub, List.replicate_succ, List.replicate_zero, List.cons_append, List.nil_append])
  unfold iRows
  (refine Wk.o ?_; (repeat revert hK K); refine W171fa ?_; (repeat intro K hK); refine ⟨?_⟩)
  (refine AWH (σ := Nat) [11, 12, 13, 14, 17, 18, 19, 20, 21, 22, 23, 24, 25, 26, 4, 15, 16] (fun k => [(5, lint k)]) (fun k => []) (fun k => []) (fun k => k ≤ A.length) (fun k => A.length - k) 0 (by first | exact Nat.zero_le _) ?_; rintro k d fr hfr hk; simp only [updS, deadS, List.set_cons_succ, List.set_cons_zero, lint] at hfr; subst hfr; (try dsimp only))
  by_cases hlt : k < A.length
  · have hC := hSm k
    (refine Wk.o ?_; (repeat revert hK K); refine W171fa ?_; (repeat intro K hK); refine ⟨?_⟩)
    exact WEND (k + 1) (by omega) (by (first | omega | (dsimp only; omega) | (simp only; omega)))
  · obtain rfl : k = A.length := by omega
    (refine Wk.o ?_; (repeat revert hK K); refine W171fa ?_; (repeat intro K hK); refine ⟨?_⟩)
    (simp only [bodyX]; refine ⟨_, by simp only [aresults, aresult, XS.as, Tryd.results26, aload, go_sem, Option.bind_some]; rfl, ?_⟩)
    exact ⟨ids_idB rfl, rfl, trivial⟩
set_option maxRecDepth 100000 in
set_option maxHeartbeats 1000000 in
theorem pf_formSelf6 (V : Int) (A : List (List Int)) (hA : A.length ≤ 1000000) (hr : ∀ k, (A.getD k []).length ≤ 1000000) : PF Tryd.prog 10 [aForm V A, aForm V A] fun r H' => r = lt (.bool true) ∧ H' = [] := by
  refine SF.forgetAll ?_
  have hs1 := trivial; have hs2 := trivial; have hs3 := trivial; have hC := trivial
  have hS := pf_rowsSelf6 A hA hr
  (refine SF_of_bodyX (aload tt) (aload_ok tyOK) Tryd.func10 rfl (by kernel_rfl) ?_; simp only [Tryd.ntmps10, List.length_cons, List.length_nil, Nat.reduceAdd, Nat.reduceSub, List.replicate_succ, List.replicate_zero, List.cons_append, List.nil_append])
  unfold aForm iRows lint
  (refine Wk.o ?_; (repeat revert hK K); refine W171fa ?_; (repeat intro K hK); refine ⟨?_⟩)
  (simp only [bodyX]; refine ⟨_, by simp only [aresults, aresult, XS.as, Tryd.results10, aload, go_sem, Option.bind_some]; rfl, ?_⟩)
  exact ⟨ids_idB rfl, rfl, trivial⟩
end Go.Proofs.YthgmjboldboclaaDoor
namespace Go.Proofs.YthgmjboldboclaaDoor
open Go.RowKit Go.Lib
set_option linter.unusedVariables false
set_option linter.unusedSimpArgs false
theorem pf_prs (l : List UInt8) (hl : l.length ≤ 1000000) : PF Tryd.prog 8 [lt (.string (ba l))] fun r H' => r = .tup [aForm (prs l).1 (prs l).2.1, lint (prs l).2.2.1, lint (prs l).2.2.2] ∧ H' = [] :=
  pf_Parse6 l (lns 1 0 l) hl (by have := (lns_sum l.length 1 0 l (Nat.le_refl _)).2.1; omega) (fun i => by have := lns_rowlen l i; omega) (pf_Lines l hl) (by have := toks_len l; unfold toks at this; omega) (fun j => by have := toks_txt l j; unfold toks at this; omega)
theorem pf_rprs (l : List UInt8) (hl : l.length ≤ 1000000) : PF Tryd.prog 9 [lt (.string (ba l))] fun r H' => r = .tup [aForm (prs l).1 (prs l).2.1, lint (prs l).2.2.1, lint (prs l).2.2.2] ∧ H' = [] :=
  pf_rParse6 l (toks l) hl (pf_rAllG l (lns 1 0 l) (by have := (lns_sum l.length 1 0 l (Nat.le_refl _)).2.1; omega) (fun i => by have := lns_rowlen l i; omega) (pf_rLines l hl)) (by have := toks_len l; omega) (fun j => by have := toks_txt l j; omega)
theorem fit_small {x : Int} (h : -1000000 ≤ x ∧ x ≤ 1000000) : Fit x := ⟨by omega, by omega⟩
theorem pf_chkOk (V : Int) (R : List (List Int)) (hl : R.length ≤ 1000000) (hs : ShortR R 100000) (h : fErr V R = 0) : PF Tryd.prog 16 [aForm V R] fun r H' => r = .tup [lint (fAt V R), lint 0] ∧ H' = [] := by
  have := pf_Check V R hl hs
  rwa [h] at this
theorem q6_P1 : PF Tryd.prog 8 [lt (.string (ba tx61))] fun r H' => r = .tup [aForm 2 [[1, -2], [2]], lt (.int .i64 27), lt (.int .i64 0)] ∧ H' = [] := by
  have h := pf_prs tx61 (by decide)
  rw [prs_61] at h; exact h
theorem q6_P2 : PF Tryd.prog 8 [lt (.string (ba tx62))] fun r H' => r = .tup [aForm 0 [], lt (.int .i64 12), lt (.int .i64 7)] ∧ H' = [] := by
  have h := pf_prs tx62 (by decide)
  rw [prs_62] at h; exact h
theorem q6_P3 : PF Tryd.prog 8 [lt (.string (ba tx63))] fun r H' => r = .tup [aForm 0 [], lt (.int .i64 12), lt (.int .i64 11)] ∧ H' = [] := by
  have h := pf_prs tx63 (by decide)
  rw [prs_63] at h; exact h
theorem short6 : ShortR [[1, -2], [2]] 100000 := fun c hc => by
  simp only [List.mem_cons, List.not_mem_nil, or_false] at hc
  rcases hc with rfl | rfl <;> decide
theorem q6_Pr : PF Tryd.prog 12 [aForm 2 [[1, -2], [2]]] fun r H' => r = .tup [lt (.string (ba [112, 32, 99, 110, 102, 32, 50, 32, 50, 10, 49, 32, 45, 50, 32, 48, 10, 50, 32, 48, 10])), lt (.int .i64 0)] ∧ H' = [] := by
  have hF : ∀ c ∈ ([[1, -2], [2]] : List (List Int)), ∀ x ∈ c, Fit x := fun c hc x hx => by
    simp only [List.mem_cons, List.not_mem_nil, or_false] at hc
    rcases hc with rfl | rfl
    · simp only [List.mem_cons, List.not_mem_nil, or_false] at hx
      rcases hx with rfl | rfl <;> exact fit_small (by decide)
    · simp only [List.mem_cons, List.not_mem_nil, or_false] at hx
      subst hx; exact fit_small (by decide)
  have h := pf_dPrint 2 [[1, -2], [2]] _ (fit_small (by decide)) hF (by decide) (fun c hc => Nat.le_trans (short6 c hc) (by decide)) (by rw [prB_6]; decide) (pf_chkOk 2 [[1, -2], [2]] (by decide) short6 (by decide +kernel))
  rw [prB_6] at h; exact h
theorem q6_H : PF Tryd.prog 14 [lt (.int .i64 1), lt (.int .i64 0)] fun r H' => r = lt (.string (ba [112, 32, 99, 110, 102, 32, 49, 32, 48, 10])) ∧ H' = [] := by
  have h := pf_Head6 1 0 (fit_small (by decide)) (fit_small (by decide))
  rw [headB_6] at h; exact h
theorem q6_S : PF Tryd.prog 10 [aForm 2 [[1, -2], [2]], aForm 2 [[1, -2], [2]]] fun r H' => r = lt (.bool true) ∧ H' = [] :=
  pf_formSelf6 2 [[1, -2], [2]] (by decide) (fun k => by
    match k with
    | 0 => decide
    | 1 => decide
    | k + 2 => exact Nat.zero_le _)
set_option maxRecDepth 100000 in
set_option maxHeartbeats 4000000 in
theorem pf_awake06 : PF Tryd.prog 7 [] fun r H' => r = lt (.bool true) ∧ H' = [] := by
  refine SF.forgetAll ?_
  have hs3 := trivial; have hs4 := trivial
  have hS := q6_S
  have hP1 := q6_P1
  have hP2 := q6_P2
  have hP3 := q6_P3
  have hPr := q6_Pr
  unfold aForm iRows lint at hP1 hP2 hP3 hPr
  have hs1 : (⟨#[112, 32, 99, 110, 102, 32, 50, 32, 50, 10, 49, 32, 45, 50, 32, 48, 10, 50, 32, 48, 10]⟩ : ByteArray).toList = [112, 32, 99, 110, 102, 32, 50, 32, 50, 10, 49, 32, 45, 50, 32, 48, 10, 50, 32, 48, 10] := ba_toList [112, 32, 99, 110, 102, 32, 50, 32, 50, 10, 49, 32, 45, 50, 32, 48, 10, 50, 32, 48, 10]
  have hs2 : (⟨#[112, 32, 99, 110, 102, 32, 49, 32, 48, 10]⟩ : ByteArray).toList = [112, 32, 99, 110, 102, 32, 49, 32, 48, 10] := ba_toList [112, 32, 99, 110, 102, 32, 49, 32, 48, 10]
  (refine SF_of_bodyX (aload tt) (aload_ok tyOK) Tryd.func7 rfl (by kernel_rfl) ?_; simp only [Tryd.ntmps7, List.length_cons, List.length_nil, Nat.reduceAdd, Nat.reduceSub, List.replicate_succ, List.replicate_zero, List.cons_append, List.nil_append])
  repeat (first | (first | (with_reducible first | refine AX_block ?_ | refine AX_skip ?_ | refine AX_exit ?_ | refine AX_ret ?_ | refine AX_ift ?_ | refine AX_iff ?_ | refine AX_seq_k (fun K hK => ?_) | refine ContX.use (by assumption) ?_) | simp only [thenX, inBlockX, if_true, if_false, reduceCtorEq]) | ((first | (refine XRes_litF tyOK (by rfl) rfl (by decide) rfl rfl ?_) | (refine ADF_litF tyOK (by rfl) rfl (by decide) rfl rfl ?_) | (refine XRes_litRw tyOK [[1, -2], [2]] (by rfl) rfl ?_)); (simp only [List.map_cons, List.map_nil, intOf, putL, List.set_cons_succ, List.set_cons_zero])) | (first | ((first | (with_reducible refine XRes_op tyOK ?_ ?_) | ((with_reducible first | refine ADF_op tyOK ?_ ?_ ?_ | refine ADX_op tyOK ?_ ?_ ?_); (focus rfl)) | (with_reducible refine ADR_alloc1 tyOK ?_ ?_) | ((with_reducible refine ADR_free1 tyOK ?_ ?_ ?_); (focus rfl)) | ((with_reducible refine ADR_free0 tyOK ?_ ?_ ?_); (focus rfl)) | ((with_reducible refine ADR_read1 tyOK ?_ ?_ ?_); (focus rfl)) | (with_reducible refine ADR_chg1 tyOK ?_ ?_)); (focus (first | (with_reducible rfl) | ((simp (disch := omega) only [go_sem]); done))); simp (disch := omega) only [go_sem , hs1, hs2, hs3, hs4, Int.toNat_zero, Int.toNat_one, List.length_nil, iRows, ba_toList, beq_self_eq_true]; (first | (with_reducible refine XRes_id ?_) | (with_reducible refine ADF_id ?_) | (with_reducible refine ADR_id1 ?_) | (with_reducible refine ADX_id ?_))) | ((first | (with_reducible refine XRes_skip ?_ ?_) | (with_reducible refine ADF_skip (b := true) ?_ ?_) | (with_reducible refine ADX_skip ?_ ?_) | ((with_reducible refine ADR_skip1 ?_ ?_ ?_); (focus rfl))); (focus (first | rfl | ((simp (disch := omega) only [go_sem]); done))); (simp only [putL, List.set_cons_succ, List.set_cons_zero]))) | ((first | (with_reducible refine XRes_nil ?_) | (with_reducible refine ADF_nil ?_) | (with_reducible refine ADR_nil ?_) | (with_reducible refine ADX_nil ?_)); (first | refine hK _ ?_ | refine hK _ _ ?_); clear hK K) | ((first | (with_reducible refine AX_reg0 fun K hK => ?_) | (refine AX_drawG1 tyOK (by kernel_rfl) (by rfl) (by kernel_rfl) fun K hK => ?_) | (refine AX_drawT tyOK (by kernel_rfl) (by decide +kernel) fun K hK => ?_) | (refine AX_drawM1 (by kernel_rfl) (by rfl) (by decide +kernel) fun K hK => ?_) | (refine AX_drawA tyOK (by kernel_rfl) (by decide +kernel) fun K hK => ?_)); (first | simp only [go_sem, preN, effOp, runF, alM, mapOp, alD2, kdOf2, Bool.not_false, Bool.not_true, reduceCtorEq] | simp only [go_sem, preN, effOp, runF, alM, mapOp, Bool.not_false, Bool.not_true, reduceCtorEq] | simp only [go_sem, preN, effOp, runF, alD2, kdOf2, Bool.not_false, Bool.not_true, reduceCtorEq] | simp only [go_sem, alD2, kdOf2, Bool.not_false, Bool.not_true, reduceCtorEq] | simp only [go_sem, preN, effOp, runF, Bool.not_false, Bool.not_true, reduceCtorEq] | simp only [go_sem])) | (first | (first | refine XTL (by rfl) hP1 ?_ | refine ATL tyOK (by rfl) hP1 ?_ | refine XTL (by rfl) hP2 ?_ | refine ATL tyOK (by rfl) hP2 ?_ | refine XTL (by rfl) hP3 ?_ | refine ATL tyOK (by rfl) hP3 ?_ | refine XTL (by rfl) hPr ?_ | refine ATL tyOK (by rfl) hPr ?_ | refine XTL (by rfl) q6_H ?_ | refine ATL tyOK (by rfl) q6_H ?_ | refine XTL (by rfl) hS ?_ | refine ATL tyOK (by rfl) hS ?_)))
  (simp only [bodyX]; refine ⟨_, by simp only [aresults, aresult, XS.as, Tryd.results7, aload, go_sem, Option.bind_some]; rfl, ?_⟩)
  exact ⟨ids_idB rfl, rfl, trivial⟩
end Go.Proofs.YthgmjboldboclaaDoor
namespace Go.Proofs.YthgmjboldboclaaDoor
open Go.RowKit Go.Lib
set_option linter.unusedSimpArgs false
structure GoodC (V : Int) (c : List Int) : Prop where
  len : c.length ≤ 1000
  lits : ∀ x ∈ c, x ≠ 0 ∧ -V ≤ x ∧ x ≤ V
  nodup : c.Nodup
  one : ∀ x ∈ c, -x ∉ c
theorem GoodC.nil (V : Int) : GoodC V [] := ⟨by simp, by simp, List.nodup_nil, by simp⟩
theorem numR_bd2 {l : List UInt8} {V : Int} (hV : 0 ≤ V) : -V ≤ (numR l (-V) V).1 ∧ (numR l (-V) V).1 ≤ V := by
  unfold numR
  split
  · exact ⟨by show -V ≤ 0; omega, hV⟩
  · split
    · rename_i h; exact ⟨h.2.2.1, h.2.2.2⟩
    · exact ⟨by show -V ≤ 0; omega, hV⟩
theorem litE_zero {V : Int} {c : List Int} {l : List UInt8} (h : litE V c l = 0) (h2 : (numR l (-V) V).1 ≠ 0) : c.length ≠ 1000 ∧ (numR l (-V) V).1 ∉ c ∧ -(numR l (-V) V).1 ∉ c := by
  unfold litE at h
  by_cases h1 : (numR l (-V) V).2 ≠ 0
  · rw [if_pos h1] at h; exact absurd h h1
  · rw [if_neg h1, if_neg h2] at h
    by_cases h3 : c.length = 1000
    · rw [if_pos h3] at h; cases h
    · rw [if_neg h3] at h
      by_cases h4 : (numR l (-V) V).1 ∈ c
      · rw [if_pos h4] at h; cases h
      · rw [if_neg h4] at h
        by_cases h5 : -(numR l (-V) V).1 ∈ c
        · rw [if_pos h5] at h; cases h
        · exact ⟨h3, h4, h5⟩
theorem GoodC.snoc {V : Int} {c : List Int} {l : List UInt8} (hV : 0 ≤ V) (hc : GoodC V c) (h : litE V c l = 0) (h2 : (numR l (-V) V).1 ≠ 0) : GoodC V (c ++ [(numR l (-V) V).1]) := by
  obtain ⟨h3, h4, h5⟩ := litE_zero h h2
  have hb := numR_bd2 (l := l) hV
  generalize (numR l (-V) V).1 = x at *
  have hl := hc.len
  refine ⟨by rw [List.length_append, List.length_singleton]; omega, fun y hy => ?_, ?_, fun y hy hy2 => ?_⟩
  · rcases List.mem_append.1 hy with hy | hy
    · exact hc.lits y hy
    · rw [List.mem_singleton] at hy; subst hy; exact ⟨h2, hb⟩
  · rw [List.nodup_append]
    exact ⟨hc.nodup, by simp, fun a ha b hb e => by simp at hb; subst hb; subst e; exact h4 ha⟩
  · rcases List.mem_append.1 hy with ha | ha <;> rcases List.mem_append.1 hy2 with hb | hb
    · exact hc.one y ha hb
    · rw [List.mem_singleton] at hb
      have : -x = y := by omega
      rw [this] at h5; exact h5 ha
    · rw [List.mem_singleton] at ha; rw [ha] at hb; exact h5 hb
    · rw [List.mem_singleton] at ha hb; omega
def tot (R : List (List Int)) : Nat := (R.map List.length).sum
theorem tot_snoc (R : List (List Int)) (c : List Int) : tot (R ++ [c]) = tot R + c.length := by unfold tot; simp
theorem pRun_good {V N z : Int} (hV : 0 ≤ V) : ∀ (ts : List Tok3) (xss : List (List Int)) (c : List Int), (∀ d ∈ xss, GoodC V d) → GoodC V c →
    (∀ d ∈ (pRun V N z ts xss c).1, GoodC V d) ∧ (pRun V N z ts xss c).1.length ≤ xss.length + ts.length ∧ tot (pRun V N z ts xss c).1 + 0 ≤ tot xss + c.length + ts.length
  | [], xss, c, hx, hc => by
    rw [pRun]
    split
    · exact ⟨by simp, by simp, by simp [tot]⟩
    · exact ⟨hx, by simp, by simp⟩
  | t :: ts, xss, c, hx, hc => by
    rw [pRun_cons]
    split
    · exact ⟨by simp, by simp, by simp [tot]⟩
    · split
      · exact ⟨by simp, by simp, by simp [tot]⟩
      · rename_i h1
        have h1 := Classical.not_not.1 h1
        split
        · obtain ⟨i1, i2, i3⟩ := pRun_good (N := N) (z := z) hV ts (xss ++ [c]) [] (fun d hd => by
            rcases List.mem_append.1 hd with hd | hd
            · exact hx d hd
            · rw [List.mem_singleton] at hd; subst hd; exact hc) (GoodC.nil V)
          rw [tot_snoc] at i3
          rw [List.length_append] at i2
          refine ⟨i1, ?_, ?_⟩
          · simp at i2 ⊢; omega
          · simp at i3 ⊢; omega
        · rename_i h2
          obtain ⟨i1, i2, i3⟩ := pRun_good (N := N) (z := z) hV ts xss _ hx (hc.snoc hV h1 h2)
          refine ⟨i1, ?_, ?_⟩
          · simp at i2 ⊢; omega
          · simp at i3 ⊢; omega
theorem numR_inX {l : List UInt8} {lo hi : Int} (h0 : lo ≤ 0) (h1 : 0 ≤ hi) : lo ≤ (numR l lo hi).1 ∧ (numR l lo hi).1 ≤ hi := by
  unfold numR
  split
  · exact ⟨h0, h1⟩
  · split
    · rename_i h; exact ⟨h.2.2.1, h.2.2.2⟩
    · exact ⟨h0, h1⟩
structure PrsOK (l : List UInt8) : Prop where
  vars : 0 ≤ (prs l).1 ∧ (prs l).1 ≤ 100000
  good : ∀ d ∈ (prs l).2.1, GoodC (prs l).1 d
  len : (prs l).2.1.length ≤ l.length
  tot : tot (prs l).2.1 ≤ l.length
  bad : (prs l).2.2.2 ≠ 0 → (prs l).1 = 0 ∧ (prs l).2.1 = []
theorem prs_ok (l : List UInt8) : PrsOK l := by
  have hT := toks_len l
  have hh : prs l = pParse (toks l) l.length := rfl
  by_cases h : hdI (toks l) < 4
  · rw [pParse_bad h] at hh
    exact ⟨by rw [hh]; exact (show 0 ≤ (0 : Int) ∧ (0 : Int) ≤ 100000 by decide), by rw [hh]; simp, by rw [hh]; simp, by rw [hh]; simp [Go.Proofs.YthgmjboldboclaaDoor.tot], fun _ => by rw [hh]; exact ⟨rfl, rfl⟩⟩
  · have h4 : hdI (toks l) = 4 := by
      have : hdI (toks l) ≤ 4 := by unfold hdI; split; omega; split; omega; split; omega; split <;> omega
      omega
    rw [pParse_run h4] at hh
    have hV : 0 ≤ hdV (toks l) ∧ hdV (toks l) ≤ 100000 := numR_inX (by decide) (by decide)
    obtain ⟨i1, i2, i3⟩ := pRun_good (N := hdN (toks l)) (z := (l.length : Int)) hV.1 ((toks l).drop 4) [] [] (by simp) (GoodC.nil _)
    rw [List.length_drop] at i2 i3
    by_cases he : (pRun (hdV (toks l)) (hdN (toks l)) l.length ((toks l).drop 4) [] []).2.2 ≠ 0
    · rw [if_pos he] at hh
      exact ⟨by rw [hh]; exact (show 0 ≤ (0 : Int) ∧ (0 : Int) ≤ 100000 by decide), by rw [hh]; simp, by rw [hh]; simp, by rw [hh]; simp [Go.Proofs.YthgmjboldboclaaDoor.tot], fun _ => by rw [hh]; exact ⟨rfl, rfl⟩⟩
    · rw [if_neg he] at hh
      refine ⟨by rw [hh]; exact hV, by rw [hh]; exact i1, by rw [hh]; simp at i2; dsimp only; omega, by rw [hh]; simp [Go.Proofs.YthgmjboldboclaaDoor.tot] at i3 ⊢; omega, fun h5 => ?_⟩
      rw [hh] at h5
      exact absurd h5 he
theorem lcheck_good {V x : Int} (hV : 0 ≤ V ∧ V ≤ 100000) (h : x ≠ 0 ∧ -V ≤ x ∧ x ≤ V) : lcheck x V = 0 := by
  have hl : lvar x = if 0 < x then x else -x := by
    unfold lvar
    split
    · rw [if_pos (by omega)]
    · split
      · rw [if_neg (by omega)]
      · omega
  unfold lcheck
  rw [if_neg (by omega), hl]
  split <;> (rw [if_neg (by omega)])
theorem fErr_good {V : Int} {R : List (List Int)} (hV : 0 ≤ V ∧ V ≤ 100000) (hR : R.length ≤ 1000000) (h : ∀ d ∈ R, GoodC V d) : fErr V R = 0 := by
  unfold fErr
  rw [if_neg (by omega), if_neg (by omega), if_pos]
  unfold fBad fFind
  rw [if_neg]
  rw [List.any_eq_true]
  rintro ⟨c, hc, h1⟩
  have hg := h c hc
  have h2 : cCheck c V = 0 := by
    unfold cCheck
    have := hg.len
    rw [if_neg (by omega), if_neg (by omega), if_neg, if_pos hg.nodup]
    rw [Bool.not_eq_false, List.all_eq_true]
    intro x hx
    rw [lcheck_good hV (hg.lits x hx)]; rfl
  have h3 : cTaut c = false := by
    cases e : cTaut c with
    | false => rfl
    | true =>
      obtain ⟨x, _, h4, h5⟩ := (taut_iff c).1 e
      exact absurd h5 (hg.one x h4)
  unfold fChk at h1
  rw [if_neg (by rw [h2]; simp), if_neg (by rw [h3]; simp)] at h1
  simp at h1
theorem good_of {V : Int} {R : List (List Int)} (h : fErr V R = 0) : (0 ≤ V ∧ V ≤ 100000) ∧ R.length ≤ 1000000 ∧ ∀ d ∈ R, GoodC V d := by
  obtain ⟨h1, h2, h3, h4⟩ := fErr_ok h
  refine ⟨⟨h1, h2⟩, h3, fun d hd => ?_⟩
  obtain ⟨h5, h6⟩ := h4 d hd
  unfold cCheck at h5
  rw [if_neg (by omega)] at h5
  split at h5
  · cases h5
  · split at h5
    · cases h5
    · rename_i h7 h8
      split at h5
      · rename_i h9
        rw [Bool.not_eq_false, List.all_eq_true] at h8
        have hl : ∀ x ∈ d, lvar x ≠ 0 ∧ x ≠ 0 ∧ -V ≤ x ∧ x ≤ V := fun x hx => by
          have := h8 x hx
          have h10 : lcheck x V = 0 := by simpa using this
          unfold lcheck at h10
          rw [if_neg (by omega)] at h10
          split at h10
          · cases h10
          · rename_i h11
            obtain ⟨h12, h13⟩ := not_or.1 h11
            refine ⟨h12, ?_⟩
            unfold lvar at h12 h13
            split at h13
            · omega
            · split at h13
              · omega
              · rename_i h14 h15; rw [if_neg h14, if_neg h15] at h12; exact absurd rfl h12
        exact ⟨by omega, fun x hx => (hl x hx).2, h9, fun x hx hx2 => by
          have := (taut_iff d).2 ⟨x, (hl x hx).1, hx, hx2⟩
          rw [h6] at this; cases this⟩
      · cases h5
end Go.Proofs.YthgmjboldboclaaDoor
