import Derived.Test.YthgmjboldboclaaDoorMgBK
import Derived.Test.YthgmjboldboclaaDoorMgBL
import Derived.Test.YthgmjboldboclaaDoorMgAI
import Derived.Test.YthgmjboldboclaaDoorMgAH
import Derived.Test.YthgmjboldboclaaDoorMgBB
import Derived.Test.YthgmjboldboclaaDoorMgBC
import Derived.Test.YthgmjboldboclaaDoorMgBA
import Derived.Test.YthgmjboldboclaaDoorMgBD
import Derived.Test.YthgmjboldboclaaDoorMgBU
namespace Go.Proofs.YthgmjboldboclaaDoor
open Go.RowKit Go.Lib
set_option linter.unusedVariables false
set_option linter.unusedSimpArgs false
theorem W7c64a {A B : Prop} (h9 : B) (w : B → A := by (intro h9; (repeat intro K hK); refine ⟨?_⟩; (repeat (first | (first | (with_reducible first | refine AX_block ?_ | refine AX_skip ?_ | refine AX_exit ?_ | refine AX_ret ?_ | refine AX_ift ?_ | refine AX_iff ?_ | refine AX_seq_k (fun K hK => ?_) | refine ContX.use (by assumption) ?_) | simp only [thenX, inBlockX, if_true, if_false, reduceCtorEq]) | (first | ((with_reducible refine XOP tyOK ?_); simp (disch := omega) only [go_sem , hs1, hs2, hs3, hs4, hs5, hs6, hs7, hs8, hs9, Int.toNat_natCast, ba_size, ba_app, List.length_append, List.length_nil, List.length_cons, Nat.reduceAdd]; (with_reducible refine XRes_id ?_)) | (with_reducible refine XSK ?_)) | ((with_reducible refine XRes_nil ?_); refine hK _ ?_; clear hK K) | ((with_reducible refine AX_reg0 fun K hK => ?_); simp only [go_sem]) | (first | (first | refine XTL (by rfl) hD ?_ | refine XTL (by rfl) hH ?_ | refine XTL (by rfl) hk ?_)))); refine Wk.o ?_; (repeat revert hK K); exact h9)) : A := w h9
set_option maxRecDepth 100000 in
set_option maxHeartbeats 4000000 in
theorem pf_rPrintNo (V : Int) (xss : List (List Int)) (A E : Int) (hE : E ≠ 0) (hk : PF Tryd.prog 32 [aForm V xss] fun r H' => r = .tup [lint A, lint E] ∧ H' = []) : PF Tryd.prog 13 [aForm V xss] fun r H' => r = .tup [lt (.string (ba [])), lint E] ∧ H' = [] := by
  refine SF.forgetAll ?_
  have hk0 := hk
  have hs1 := trivial; have hs2 := trivial; have hs3 := trivial; have hs4 := trivial; have hs5 := trivial; have hs6 := trivial; have hs7 := trivial; have hs8 := trivial; have hs9 := trivial; have hD := trivial; have hH := trivial; have hk := trivial
  have hk := hk0
  have hs1 : (E == 0) = false := by simpa using hE
  unfold aForm iRows lint at *
  (refine SF_of_bodyX (aload tt) (aload_ok tyOK) Tryd.func13 rfl (by kernel_rfl) ?_; simp only [Tryd.ntmps13, List.length_cons, List.length_nil, Nat.reduceAdd, Nat.reduceSub, List.replicate_succ, List.replicate_zero, List.cons_append, List.nil_append])
  (refine Wk.o ?_; (repeat revert hK K); refine W7c64a ?_; (repeat intro K hK); refine ⟨?_⟩)
  (simp only [bodyX]; refine ⟨_, by simp only [aresults, aresult, XS.as, Tryd.results13, aload, go_sem, Option.bind_some]; rfl, ?_⟩)
  exact ⟨ids_idB rfl, rfl, trivial⟩
set_option maxRecDepth 100000 in
set_option maxHeartbeats 4000000 in
theorem pf_rPrint (V : Int) (xss : List (List Int)) (A : Int) (hV : Fit V) (hF : ∀ c ∈ xss, ∀ x ∈ c, Fit x) (hR : xss.length ≤ 1000000) (hC : ∀ c ∈ xss, c.length ≤ 1000000) (hP : (prB V xss).length ≤ 1000000) (hk : PF Tryd.prog 32 [aForm V xss] fun r H' => r = .tup [lint A, lint 0] ∧ H' = []) : PF Tryd.prog 13 [aForm V xss] fun r H' => r = .tup [lt (.string (ba (prB V xss))), lint 0] ∧ H' = [] := by
  refine SF.forgetAll ?_
  have hk0 := hk
  have hs1 := trivial; have hs2 := trivial; have hs3 := trivial; have hs4 := trivial; have hs5 := trivial; have hs6 := trivial; have hs7 := trivial; have hs8 := trivial; have hs9 := trivial; have hD := trivial; have hH := trivial; have hk := trivial
  have hk := hk0
  have hH := pf_rHead6 V (xss.length : Int) hV ⟨by omega, by omega⟩
  have hHl : (headB V xss.length).length ≤ 60 := headB_len hV ⟨by omega, by omega⟩
  have hs5 : (⟨#[32]⟩ : ByteArray) = ba [32] := rfl
  have hs6 : (⟨#[48, 10]⟩ : ByteArray) = ba [48, 10] := rfl
  unfold aForm iRows lint at *
  (refine SF_of_bodyX (aload tt) (aload_ok tyOK) Tryd.func13 rfl (by kernel_rfl) ?_; simp only [Tryd.ntmps13, List.length_cons, List.length_nil, Nat.reduceAdd, Nat.reduceSub, List.replicate_succ, List.replicate_zero, List.cons_append, List.nil_append])
  (refine Wk.o ?_; (repeat revert hK K); refine W7c64a ?_; (repeat intro K hK); refine ⟨?_⟩)
  have h00 : headB V xss.length = headB V xss.length ++ (xss.take 0).flatMap clB := by simp
  rw [h00]
  (refine AWH (σ := Nat) [23, 24, 25, 26, 27, 8, 30, 31, 32, 33, 34, 35, 36, 37, 40, 41, 42, 43, 44, 45, 46, 47, 48, 49, 50, 51, 38, 39, 52, 53, 28, 29] (fun k => [(7, lint k), (6, lt (.string (ba (headB V xss.length ++ (xss.take k).flatMap clB))))]) (fun k => [some ⟨25, [lint V, .iv (.sl (fun j => iInts (xss.getD j [])) xss.length 1)]⟩]) (fun k => []) (fun k => k ≤ xss.length) (fun k => xss.length - k) 0 (by first | exact Nat.zero_le _) ?_; rintro k d fr hfr hk2; simp only [updS, deadS, List.set_cons_succ, List.set_cons_zero, lint] at hfr; subst hfr; (try dsimp only))
  by_cases hlt : k < xss.length
  · have hst := flat_step clB [] hlt
    have hle := flat_lt clB [] hlt
    have hgc : xss.getD k [] ∈ xss := by rw [List.getD_eq_getElem?_getD, List.getElem?_eq_getElem hlt]; exact List.getElem_mem hlt
    have hcF := hF _ hgc
    have hcl := hC _ hgc
    have hs1 : decide ((k : Int) < (xss.length : Int)) = true := decide_eq_true (by omega)
    have hPl : (headB V xss.length).length + (xss.flatMap clB).length ≤ 1000000 := by unfold prB at hP; rw [List.length_append] at hP; exact hP
    generalize hc : xss.getD k [] = c at *
    have hs2 : iInts (xss.getD k []) = .sl (fun j => .lit (.int .i64 (c.getD j 0))) c.length 1 := by rw [hc]; rfl
    have hcb : clB c = c.flatMap litB ++ [48, 10] := rfl
    rw [hcb, List.length_append] at hle
    have hln : ([48, 10] : List UInt8).length = 2 := rfl
    have hI2 : k + 1 ≤ xss.length := by omega
    have h01 : headB V xss.length ++ (xss.take k).flatMap clB = headB V xss.length ++ (xss.take k).flatMap clB ++ (c.take 0).flatMap litB := by simp
    have hL0l : (headB V xss.length ++ (xss.take k).flatMap clB).length + ((c.flatMap litB).length + 2) ≤ 1000000 := by rw [List.length_append]; omega
    have hN1 : headB V xss.length ++ (xss.take (k + 1)).flatMap clB = (headB V xss.length ++ (xss.take k).flatMap clB ++ c.flatMap litB) ++ [48, 10] := by rw [hst, hcb]; simp only [List.append_assoc]
    generalize hL0 : headB V xss.length ++ (xss.take k).flatMap clB = L0 at *
    (refine Wk.o ?_; (repeat revert hK K); refine W7c64a ?_; (repeat intro K hK); refine ⟨?_⟩)
    rw [h01]
    (refine AWH (σ := Nat) [30, 31, 32, 33, 34, 35, 36, 37, 40, 41, 42, 43, 44, 45, 46, 47, 48, 49, 50, 51, 38, 39] (fun j => [(8, lint j), (6, lt (.string (ba (L0 ++ (c.take j).flatMap litB))))]) (fun j => [some ⟨25, [lint V, .iv (.sl (fun j => iInts (xss.getD j [])) xss.length 1)]⟩]) (fun j => []) (fun j => j ≤ c.length) (fun j => c.length - j) 0 (by first | exact Nat.zero_le _) ?_; rintro j d fr hfr hj; simp only [updS, deadS, List.set_cons_succ, List.set_cons_zero, lint] at hfr; subst hfr; (try dsimp only))
    by_cases hj2 : j < c.length
    · have hs3 : decide ((j : Int) < (c.length : Int)) = true := decide_eq_true (by omega)
      have hjs := flat_step litB 0 hj2
      have hjl := flat_lt litB 0 hj2
      have hx : Fit (c.getD j 0) := hcF _ (by rw [List.getD_eq_getElem?_getD, List.getElem?_eq_getElem hj2]; exact List.getElem_mem hj2)
      generalize hxe : c.getD j 0 = x at *
      have hs4 := hxe
      have hD := pf_rDigits x hx.1 hx.2
      have hxb : litB x = itoa x ++ [32] := rfl
      rw [hxb, List.length_append] at hjl
      have hl1 : ([32] : List UInt8).length = 1 := rfl
      have hLj : (L0 ++ (c.take j).flatMap litB).length + ((itoa x).length + 1) ≤ 1000000 := by rw [List.length_append]; omega
      have hNx : L0 ++ (c.take (j + 1)).flatMap litB = ((L0 ++ (c.take j).flatMap litB) ++ itoa x) ++ [32] := by rw [hjs, hxb]; simp only [List.append_assoc]
      have hI3 : j + 1 ≤ c.length := by omega
      generalize hL : L0 ++ (c.take j).flatMap litB = L at *
      have hs8 := hNx
      (refine Wk.o ?_; (repeat revert hK K); refine W7c64a ?_; (repeat intro K hK); refine ⟨?_⟩)
      exact whx_end (j + 1) hI3 (by (first | omega | (dsimp only; omega) | (simp only; omega))) rfl rfl (fun d => by first | ((simp (disch := omega) only [go_sem, lint , hs1, hs2, hs3, hs4, hs5, hs6, hs7, hs8, hs9, Int.toNat_natCast, ba_size, ba_app, List.length_append, List.length_nil, List.length_cons, Nat.reduceAdd]); done) | ((simp (disch := omega) only [go_sem, lint , hs1, hs2, hs3, hs4, hs5, hs6, hs7, hs8, hs9, Int.toNat_natCast, ba_size, ba_app, List.length_append, List.length_nil, List.length_cons, Nat.reduceAdd]); rfl))
    · obtain rfl : j = c.length := by omega
      have hs3 : decide ((c.length : Int) < (c.length : Int)) = false := decide_eq_false (by omega)
      rw [List.take_length]
      have hLl : (L0 ++ c.flatMap litB).length + 2 ≤ 1000000 := by rw [List.length_append]; omega
      generalize hL : L0 ++ c.flatMap litB = L at *
      have hs8 := hN1
      (refine Wk.o ?_; (repeat revert hK K); refine W7c64a ?_; (repeat intro K hK); refine ⟨?_⟩)
      exact whx_end (k + 1) hI2 (by (first | omega | (dsimp only; omega) | (simp only; omega))) rfl rfl (fun d => by first | ((simp (disch := omega) only [go_sem, lint , hs1, hs2, hs3, hs4, hs5, hs6, hs7, hs8, hs9, Int.toNat_natCast, ba_size, ba_app, List.length_append, List.length_nil, List.length_cons, Nat.reduceAdd]); done) | ((simp (disch := omega) only [go_sem, lint , hs1, hs2, hs3, hs4, hs5, hs6, hs7, hs8, hs9, Int.toNat_natCast, ba_size, ba_app, List.length_append, List.length_nil, List.length_cons, Nat.reduceAdd]); rfl))
  · obtain rfl : k = xss.length := by omega
    have hs1 : decide ((xss.length : Int) < (xss.length : Int)) = false := decide_eq_false (by omega)
    have hall : headB V xss.length ++ (xss.take xss.length).flatMap clB = prB V xss := by rw [List.take_length]; rfl
    rw [hall]
    have hs4 : decide ((1000000 : Int) < ((prB V xss).length : Int)) = false := decide_eq_false (by omega)
    (refine Wk.o ?_; (repeat revert hK K); refine W7c64a ?_; (repeat intro K hK); refine ⟨?_⟩)
    (simp only [bodyX]; refine ⟨_, by simp only [aresults, aresult, XS.as, Tryd.results13, aload, go_sem, Option.bind_some]; rfl, ?_⟩)
    exact ⟨ids_idB rfl, rfl, trivial⟩
end Go.Proofs.YthgmjboldboclaaDoor
namespace Go.Proofs.YthgmjboldboclaaDoor
open Go.RowKit
set_option linter.unusedVariables false
set_option linter.unusedSimpArgs false
set_option maxRecDepth 100000 in
set_option maxHeartbeats 1000000 in
theorem pf_sameInts (xs ys : List Int) (hx : xs.length ≤ 1000000) (hy : ys.length ≤ 1000000) : PF Tryd.prog 49 [.iv (iInts xs), .iv (iInts ys)] fun r H' => r = lt (.bool (decide (xs = ys))) ∧ H' = [] := by
  refine SF.forgetAll ?_
  (refine SF_of_bodyX (aload tt) (aload_ok tyOK) Tryd.func49 rfl (by kernel_rfl) ?_; simp only [Tryd.ntmps49, List.length_cons, List.length_nil, Nat.reduceAdd, Nat.reduceSub, List.replicate_succ, List.replicate_zero, List.cons_append, List.nil_append])
  unfold iInts
  by_cases hl : xs.length = ys.length
  · (repeat (first | (first | (with_reducible first | refine AX_block ?_ | refine AX_skip ?_ | refine AX_exit ?_ | refine AX_ret ?_ | refine AX_ift ?_ | refine AX_iff ?_ | refine AX_seq_k (fun K hK => ?_) | refine ContX.use (by assumption) ?_) | simp only [thenX, inBlockX, if_true, if_false, reduceCtorEq]) | (first | ((with_reducible first | refine XOP tyOK ?_ | refine AOP tyOK ?_); simp (disch := omega) only [go_sem , List.length_nil]; (with_reducible first | refine XRes_id ?_ | refine ADF_id ?_)) | (with_reducible first | refine XSK ?_ | refine ASK ?_)) | ((first | (with_reducible refine XRes_nil ?_) | (with_reducible refine ADF_nil ?_)); (first | refine hK _ ?_ | refine hK _ _ ?_); clear hK K) | ((first | (with_reducible refine AX_reg0 fun K hK => ?_) | (refine AX_drawG1 tyOK (by kernel_rfl) (by rfl) (by kernel_rfl) fun K hK => ?_)); simp only [go_sem]) | fail))
    (refine AWH (σ := Nat) [11, 12, 13, 14, 17, 18, 19, 20, 21, 22, 23, 24, 25, 4, 15, 16] (fun k => [(5, lint k)]) (fun k => []) (fun k => []) (fun k => k ≤ xs.length ∧ ∀ i, i < k → xs.getD i 0 = ys.getD i 0) (fun k => xs.length - k) 0 (by first | exact ⟨Nat.zero_le _, fun i h => absurd h (by omega)⟩) ?_; rintro k d fr hfr ⟨hk, hp⟩; simp only [updS, deadS, List.set_cons_succ, List.set_cons_zero, lint] at hfr; subst hfr; (try dsimp only))
    (repeat' (first | (first | (with_reducible first | refine AX_block ?_ | refine AX_skip ?_ | refine AX_exit ?_ | refine AX_ret ?_ | refine AX_ift ?_ | refine AX_iff ?_ | refine AX_seq_k (fun K hK => ?_) | refine ContX.use (by assumption) ?_) | simp only [thenX, inBlockX, if_true, if_false, reduceCtorEq]) | (first | ((with_reducible first | refine XOP tyOK ?_ | refine AOP tyOK ?_); simp (disch := omega) only [go_sem , List.length_nil]; (with_reducible first | refine XRes_id ?_ | refine ADF_id ?_)) | (with_reducible first | refine XSK ?_ | refine ASK ?_)) | ((first | (with_reducible refine XRes_nil ?_) | (with_reducible refine ADF_nil ?_)); (first | refine hK _ ?_ | refine hK _ _ ?_); clear hK K) | ((first | (with_reducible refine AX_reg0 fun K hK => ?_) | (refine AX_drawG1 tyOK (by kernel_rfl) (by rfl) (by kernel_rfl) fun K hK => ?_)); simp only [go_sem]) | fail | ((first | (refine XRes_splitG (by rfl) (fun hc => ?_) (fun hc => ?_)) | (refine ADF_splitG (by rfl) (fun hc => ?_) (fun hc => ?_))) <;> (try simp only [eqRes, List.cons_beq_cons, Bool.and_eq_true, Bool.not_eq_true, Bool.and_eq_false_iff, decide_eq_true_eq, decide_eq_false_iff_not, bne_iff_ne, beq_iff_eq, bne_eq_false_iff_eq, beq_eq_false_iff_ne, Bool.not_eq_true', Bool.not_eq_false', ne_eq, Int.not_lt, Int.not_le, Decidable.not_not] at hc) <;> simp only [List.set_cons_succ, List.set_cons_zero]) | (first | ((with_reducible refine AX_if_t ?_ ?_); focus (simp (disch := omega) only [go_sem , List.length_nil]; done)) | ((with_reducible refine AX_if_f ?_ ?_); focus (simp (disch := omega) only [go_sem , List.length_nil]; done)) | (refine AX_cond _ (by rfl) (fun hc => ?_) (fun hc => ?_) <;> (try simp only [eqRes, List.cons_beq_cons, Bool.and_eq_true, Bool.not_eq_true, Bool.and_eq_false_iff, decide_eq_true_eq, decide_eq_false_iff_not, bne_iff_ne, beq_iff_eq, bne_eq_false_iff_eq, beq_eq_false_iff_ne, Bool.not_eq_true', Bool.not_eq_false', ne_eq, Int.not_lt, Int.not_le, Decidable.not_not] at hc)))))
    · (simp only [bodyX]; refine ⟨_, by simp only [aresults, aresult, XS.as, Tryd.results49, aload, go_sem, Option.bind_some]; rfl, ?_⟩)
      exact ⟨.iv _, (by rw [decide_eq_false]; intro e; subst e; exact hc rfl), trivial⟩
    · exact whx_end (k + 1) ⟨by omega, fun i hi => by
        rcases Nat.lt_or_ge i k with h | h
        · exact hp i h
        · rw [show i = k by omega]; exact hc⟩ (by (first | omega | (dsimp only; omega) | (simp only; omega))) rfl (by first | rfl | (simp (disch := omega) only [go_sem, lint])) (fun d => by first | ((simp only [deadS, updS, List.set_cons_succ, List.set_cons_zero, lint, List.length_nil, List.length_cons]); done) | ((simp only [deadS, updS, List.set_cons_succ, List.set_cons_zero, lint, List.length_nil, List.length_cons]); rfl) | rfl)
    · (simp only [bodyX]; refine ⟨_, by simp only [aresults, aresult, XS.as, Tryd.results49, aload, go_sem, Option.bind_some]; rfl, ?_⟩)
      refine ⟨.iv _, (by
        rw [decide_eq_true]
        apply List.ext_getElem hl
        intro i h1 h2
        have := hp i (by omega)
        simpa [List.getD, h1, h2] using this), trivial⟩
  · (repeat' (first | (first | (with_reducible first | refine AX_block ?_ | refine AX_skip ?_ | refine AX_exit ?_ | refine AX_ret ?_ | refine AX_ift ?_ | refine AX_iff ?_ | refine AX_seq_k (fun K hK => ?_) | refine ContX.use (by assumption) ?_) | simp only [thenX, inBlockX, if_true, if_false, reduceCtorEq]) | (first | ((with_reducible first | refine XOP tyOK ?_ | refine AOP tyOK ?_); simp (disch := omega) only [go_sem , List.length_nil]; (with_reducible first | refine XRes_id ?_ | refine ADF_id ?_)) | (with_reducible first | refine XSK ?_ | refine ASK ?_)) | ((first | (with_reducible refine XRes_nil ?_) | (with_reducible refine ADF_nil ?_)); (first | refine hK _ ?_ | refine hK _ _ ?_); clear hK K) | ((first | (with_reducible refine AX_reg0 fun K hK => ?_) | (refine AX_drawG1 tyOK (by kernel_rfl) (by rfl) (by kernel_rfl) fun K hK => ?_)); simp only [go_sem]) | fail | ((first | (refine XRes_splitG (by rfl) (fun hc => ?_) (fun hc => ?_)) | (refine ADF_splitG (by rfl) (fun hc => ?_) (fun hc => ?_))) <;> (try simp only [eqRes, List.cons_beq_cons, Bool.and_eq_true, Bool.not_eq_true, Bool.and_eq_false_iff, decide_eq_true_eq, decide_eq_false_iff_not, bne_iff_ne, beq_iff_eq, bne_eq_false_iff_eq, beq_eq_false_iff_ne, Bool.not_eq_true', Bool.not_eq_false', ne_eq, Int.not_lt, Int.not_le, Decidable.not_not] at hc) <;> simp only [List.set_cons_succ, List.set_cons_zero]) | (first | ((with_reducible refine AX_if_t ?_ ?_); focus (simp (disch := omega) only [go_sem , List.length_nil]; done)) | ((with_reducible refine AX_if_f ?_ ?_); focus (simp (disch := omega) only [go_sem , List.length_nil]; done)) | (refine AX_cond _ (by rfl) (fun hc => ?_) (fun hc => ?_) <;> (try simp only [eqRes, List.cons_beq_cons, Bool.and_eq_true, Bool.not_eq_true, Bool.and_eq_false_iff, decide_eq_true_eq, decide_eq_false_iff_not, bne_iff_ne, beq_iff_eq, bne_eq_false_iff_eq, beq_eq_false_iff_ne, Bool.not_eq_true', Bool.not_eq_false', ne_eq, Int.not_lt, Int.not_le, Decidable.not_not] at hc)))))
    (simp only [bodyX]; refine ⟨_, by simp only [aresults, aresult, XS.as, Tryd.results49, aload, go_sem, Option.bind_some]; rfl, ?_⟩)
    exact ⟨.iv _, (by rw [decide_eq_false]; intro e; subst e; exact hl rfl), trivial⟩
end Go.Proofs.YthgmjboldboclaaDoor
namespace Go.Proofs.YthgmjboldboclaaDoor
open Go.RowKit
set_option linter.unusedVariables false
set_option linter.unusedSimpArgs false
set_option linter.unusedVariables false
set_option linter.unusedSimpArgs false
theorem short_max {xss : List (List Int)} {n : Nat} (h : ShortR xss n) (hn : n ≤ 1000000000) : ∀ xs ∈ xss, xs.length ≤ maxLen := fun xs hx => by have := h xs hx; unfold maxLen; omega
theorem tup2 (a b : Value) (G : Gh) : RA 0 G (.tup [lt a, lt b]) (.tuple #[a, b]) := .tup [lt a, lt b] [a, b] rfl (RL.two (.iv _ _ (.lit _)) (.iv _ _ (.lit _))).2
theorem pf_Check (vars : Int) (xss : List (List Int)) (hl : xss.length ≤ 1000000) (hs : ShortR xss 100000) : PF Tryd.prog 16 [aForm vars xss] fun r H' => r = .tup [lint (fAt vars xss), lint (fErr vars xss)] ∧ H' = [] :=
  PF_of_walk2 ⟨_, Tryd.func16, by kernel_rfl, rfl⟩ (tup2 _ _) fun G w vs hi hr => by
    obtain ⟨v, us, rfl, h1, hr⟩ := hr.uncons
    rw [hr.unnil]
    obtain ⟨a, cap, rfl, h2⟩ := form_open hi (by unfold maxLen; omega) (short_max hs (by omega)) h1
    exact cnf_Check vars a _ cap xss w h2 hs
theorem pf_Few (vars : Int) (xss : List (List Int)) (hl : xss.length ≤ maxLen) (hs : ∀ xs ∈ xss, xs.length ≤ maxLen) : PF Tryd.prog 11 [aForm vars xss] fun r H' => r = lt (.bool (fFew xss)) ∧ H' = [] :=
  PF_of_walk ⟨_, Tryd.func11, by kernel_rfl, rfl⟩ fun G w vs hi hr => by
    obtain ⟨u, us, rfl, h1, hr⟩ := hr.uncons
    rw [hr.unnil]
    obtain ⟨a, cap, rfl, h2⟩ := form_open hi hl hs h1
    exact law_Few vars a _ cap xss w h2
theorem pf_Same (v1 v2 : Int) (xss yss : List (List Int)) (hl : xss.length ≤ 1000000) (hs : ShortR xss 100000) (hl2 : yss.length ≤ 1000000) (hs2 : ShortR yss 100000) : PF Tryd.prog 17 [aForm v1 xss, aForm v2 yss] fun r H' => r = lt (.bool (fSame v1 v2 xss yss)) ∧ H' = [] :=
  PF_of_walk ⟨_, Tryd.func17, by kernel_rfl, rfl⟩ fun G w vs hi hr => by
    obtain ⟨u, us, rfl, h1, hr⟩ := hr.uncons
    obtain ⟨u2, us, rfl, h3, hr⟩ := hr.uncons
    rw [hr.unnil]
    obtain ⟨a, cap, rfl, h2⟩ := form_open hi (by unfold maxLen; omega) (short_max hs (by omega)) h1
    obtain ⟨b, cb, rfl, h4⟩ := form_open hi (by unfold maxLen; omega) (short_max hs2 (by omega)) h3
    exact cnf_Same v1 v2 a b _ cap _ cb xss yss w h2 h4
theorem pf_r02TautF (xs : List Int) (hl : xs.length ≤ 1000000) : PF Tryd.prog 53 [.iv (iInts xs)] fun r H' => r = lt (.bool (cTaut xs)) ∧ H' = [] :=
  PF_of_walk ⟨_, Tryd.func53, by kernel_rfl, rfl⟩ fun G w vs hi hr => by
    obtain ⟨u, us, rfl, h1, hr⟩ := hr.uncons
    rw [hr.unnil]
    cases h1 with
    | iv _ _ h1 =>
      obtain ⟨a, ca, rfl, k1, k2, h4⟩ := ints_row hi.fz (by unfold maxLen; omega) h1
      exact (ref_Taut02 a _ ca xs w h4).mono fun e w' h => ⟨h.1, h.2 ▸ Below.refl _ _⟩
theorem pf_r01CheckF (x V : Int) : PF Tryd.prog 64 [lt (.int .i64 x), lt (.int .i64 V)] fun r H' => r = lt (.int .i64 (lcheck x V)) ∧ H' = [] :=
  PF_of_walk ⟨_, Tryd.func64, by kernel_rfl, rfl⟩ fun G w vs hi hr => by
    obtain ⟨u, us, rfl, h1, hr⟩ := hr.uncons
    obtain ⟨u2, us, rfl, h2, hr⟩ := hr.uncons
    rw [hr.unnil, h1.lit_inv, h2.lit_inv]
    exact (ref_Check x V w).mono fun e w' h => ⟨h.1, h.2 ▸ Below.refl _ _⟩
theorem ra_takeF {n : Nat} {G : Gh} {c : List Int} {k : Nat} (hk : k ≤ c.length) {v : Value} (h : RA n G (.iv (.sl (fun j => .lit (.int .i64 (c.getD j 0))) k 1)) v) : RA n G (.iv (iInts (c.take k))) v := by
  have hl : (c.take k).length = k := by rw [List.length_take]; omega
  unfold iInts
  rw [hl]
  refine RA.congr h fun j hj => ?_
  have hj2 : j < k := by omega
  simp only [List.getD_eq_getElem?_getD, List.getElem?_take_of_lt hj2]
theorem pf_hasF (c : List Int) (k : Nat) (v : Int) (hk : k ≤ c.length) (hc : c.length ≤ 1000000) : PF Tryd.prog 25 [.iv (.sl (fun j => .lit (.int .i64 (c.getD j 0))) k 1), lt (.int .i64 v)] fun r H' => r = lt (.bool (decide (v ∈ c.take k))) ∧ H' = [] :=
  SF.args (pf_has (c.take k) v (by rw [List.length_take]; omega)) fun G vs h => by
    obtain ⟨u, us, rfl, h1, h2⟩ := h.uncons
    exact RL.cons (ra_takeF hk h1) h2
theorem nodup_take {c : List Int} {k : Nat} (h : k < c.length) : (c.take (k + 1)).Nodup ↔ (c.take k).Nodup ∧ c.getD k 0 ∉ c.take k := by
  rw [List.take_add_one, List.getElem?_eq_getElem h, List.getD_eq_getElem?_getD, List.getElem?_eq_getElem h]
  simp only [Option.toList_some, Option.getD_some, List.nodup_append]
  constructor
  · rintro ⟨h1, _, h3⟩
    exact ⟨h1, fun hm => h3 _ hm _ (by simp) rfl⟩
  · rintro ⟨h1, h2⟩
    refine ⟨h1, by simp, fun a ha b hb e => ?_⟩
    simp at hb; subst hb; subst e; exact h2 ha
theorem nodup_take_of {c : List Int} (h : c.Nodup) (k : Nat) : (c.take k).Nodup := List.Sublist.nodup (List.take_sublist k c) h
theorem W171fa {A B : Prop} (h9 : B) (w : B → A := by (intro h9; (repeat intro K hK); refine ⟨?_⟩; (repeat (first | (first | (with_reducible first | refine AX_block ?_ | refine AX_skip ?_ | refine AX_exit ?_ | refine AX_ret ?_ | refine AX_ift ?_ | refine AX_iff ?_ | refine AX_seq_k (fun K hK => ?_) | refine ContX.use (by assumption) ?_) | simp only [thenX, inBlockX, if_true, if_false, reduceCtorEq]) | (first | ((first | (with_reducible refine XRes_op tyOK ?_ ?_) | ((with_reducible first | refine ADF_op tyOK ?_ ?_ ?_ | refine ADX_op tyOK ?_ ?_ ?_); (focus rfl)) | (with_reducible refine ADR_alloc1 tyOK ?_ ?_) | ((with_reducible refine ADR_free1 tyOK ?_ ?_ ?_); (focus rfl)) | ((with_reducible refine ADR_free0 tyOK ?_ ?_ ?_); (focus rfl)) | ((with_reducible refine ADR_read1 tyOK ?_ ?_ ?_); (focus rfl)) | (with_reducible refine ADR_chg1 tyOK ?_ ?_)); (focus (first | (with_reducible rfl) | ((simp (disch := omega) only [go_sem]); done))); simp (disch := omega) only [go_sem , iInts, iRows, hs1, hs2, hs3, List.length_nil]; (first | (with_reducible refine XRes_id ?_) | (with_reducible refine ADF_id ?_) | (with_reducible refine ADR_id1 ?_) | (with_reducible refine ADX_id ?_))) | ((first | (with_reducible refine XRes_skip ?_ ?_) | (with_reducible refine ADF_skip (b := true) ?_ ?_) | (with_reducible refine ADX_skip ?_ ?_) | ((with_reducible refine ADR_skip1 ?_ ?_ ?_); (focus rfl))); (focus (first | rfl | ((simp (disch := omega) only [go_sem]); done))); (simp only [putL, List.set_cons_succ, List.set_cons_zero]))) | ((first | (with_reducible refine XRes_nil ?_) | (with_reducible refine ADF_nil ?_) | (with_reducible refine ADR_nil ?_) | (with_reducible refine ADX_nil ?_)); (first | refine hK _ ?_ | refine hK _ _ ?_); clear hK K) | ((first | (with_reducible refine AX_reg0 fun K hK => ?_) | (refine AX_drawG1 tyOK (by kernel_rfl) (by rfl) (by kernel_rfl) fun K hK => ?_) | (refine AX_drawT tyOK (by kernel_rfl) (by decide +kernel) fun K hK => ?_) | (refine AX_drawM1 (by kernel_rfl) (by rfl) (by decide +kernel) fun K hK => ?_) | (refine AX_drawA tyOK (by kernel_rfl) (by decide +kernel) fun K hK => ?_)); (first | simp only [go_sem, preN, effOp, runF, alM, mapOp, alD2, kdOf2, Bool.not_false, Bool.not_true, reduceCtorEq] | simp only [go_sem, preN, effOp, runF, alM, mapOp, Bool.not_false, Bool.not_true, reduceCtorEq] | simp only [go_sem, preN, effOp, runF, alD2, kdOf2, Bool.not_false, Bool.not_true, reduceCtorEq] | simp only [go_sem, alD2, kdOf2, Bool.not_false, Bool.not_true, reduceCtorEq] | simp only [go_sem, preN, effOp, runF, Bool.not_false, Bool.not_true, reduceCtorEq] | simp only [go_sem])) | (first | (first | refine XTL (by rfl) hC ?_ | refine ATL tyOK (by rfl) hC ?_ | refine XTL (by rfl) hS ?_ | refine ATL tyOK (by rfl) hS ?_)))); refine Wk.o ?_; (repeat revert hK K); exact h9)) : A := w h9
set_option maxRecDepth 100000 in
set_option maxHeartbeats 4000000 in
theorem pf_r02Check (c : List Int) (V : Int) (hl : c.length ≤ 1000000) : PF Tryd.prog 52 [.iv (iInts c), lt (.int .i64 V)] fun r H' => r = lt (.int .i64 (cCheck c V)) ∧ H' = [] := by
  refine SF.forgetAll ?_
  have hs1 := trivial; have hs2 := trivial; have hs3 := trivial; have hs4 := trivial; have hC := trivial; have hS := trivial
  by_cases hV : V < 0 ∨ 100000 < V
  · rw [show cCheck c V = 2 from if_pos hV]
    by_cases hV1 : V < 0
    · have hs1 : decide (V < 0) = true := decide_eq_true hV1
      (refine SF_of_bodyX (aload tt) (aload_ok tyOK) Tryd.func52 rfl (by kernel_rfl) ?_; simp only [Tryd.ntmps52, List.length_cons, List.length_nil, Nat.reduceAdd, Nat.reduceSub, List.replicate_succ, List.replicate_zero, List.cons_append, List.nil_append])
      (refine Wk.o ?_; (repeat revert hK K); refine W171fa ?_; (repeat intro K hK); refine ⟨?_⟩)
      (simp only [bodyX]; refine ⟨_, by simp only [aresults, aresult, XS.as, Tryd.results52, aload, go_sem, Option.bind_some]; rfl, ?_⟩)
      exact ⟨ids_idB rfl, rfl, trivial⟩
    · have hs1 : decide (V < 0) = false := decide_eq_false hV1
      have hs2 : decide (100000 < V) = true := decide_eq_true (by omega)
      (refine SF_of_bodyX (aload tt) (aload_ok tyOK) Tryd.func52 rfl (by kernel_rfl) ?_; simp only [Tryd.ntmps52, List.length_cons, List.length_nil, Nat.reduceAdd, Nat.reduceSub, List.replicate_succ, List.replicate_zero, List.cons_append, List.nil_append])
      (refine Wk.o ?_; (repeat revert hK K); refine W171fa ?_; (repeat intro K hK); refine ⟨?_⟩)
      (simp only [bodyX]; refine ⟨_, by simp only [aresults, aresult, XS.as, Tryd.results52, aload, go_sem, Option.bind_some]; rfl, ?_⟩)
      exact ⟨ids_idB rfl, rfl, trivial⟩
  · have hs1 : decide (V < 0) = false := decide_eq_false (by omega)
    have hs2 : decide (100000 < V) = false := decide_eq_false (by omega)
    have hcc : cCheck c V = if 1000 < c.length then 3 else if (c.all fun x => lcheck x V == 0) = false then 10 else if c.Nodup then 0 else 21 := by unfold cCheck; rw [if_neg hV]
    by_cases hb : 1000 < c.length
    · rw [if_pos hb] at hcc
      rw [hcc]
      have hs3 : decide ((1000 : Int) < (c.length : Int)) = true := decide_eq_true (by omega)
      (refine SF_of_bodyX (aload tt) (aload_ok tyOK) Tryd.func52 rfl (by kernel_rfl) ?_; simp only [Tryd.ntmps52, List.length_cons, List.length_nil, Nat.reduceAdd, Nat.reduceSub, List.replicate_succ, List.replicate_zero, List.cons_append, List.nil_append])
      unfold iInts
      (refine Wk.o ?_; (repeat revert hK K); refine W171fa ?_; (repeat intro K hK); refine ⟨?_⟩)
      (simp only [bodyX]; refine ⟨_, by simp only [aresults, aresult, XS.as, Tryd.results52, aload, go_sem, Option.bind_some]; rfl, ?_⟩)
      exact ⟨ids_idB rfl, rfl, trivial⟩
    · rw [if_neg hb] at hcc
      have hs3 : decide ((1000 : Int) < (c.length : Int)) = false := decide_eq_false (by omega)
      (refine SF_of_bodyX (aload tt) (aload_ok tyOK) Tryd.func52 rfl (by kernel_rfl) ?_; simp only [Tryd.ntmps52, List.length_cons, List.length_nil, Nat.reduceAdd, Nat.reduceSub, List.replicate_succ, List.replicate_zero, List.cons_append, List.nil_append])
      unfold iInts
      (refine Wk.o ?_; (repeat revert hK K); refine W171fa ?_; (repeat intro K hK); refine ⟨?_⟩)
      (refine AWH (σ := Nat) [16, 17, 18, 19, 22, 23, 24, 25, 26, 27, 28, 4, 20, 21] (fun k => [(5, lint k)]) (fun k => []) (fun k => []) (fun k => k ≤ c.length ∧ ∀ j, j < k → lcheck (c.getD j 0) V = 0) (fun k => c.length - k) 0 (by first | exact ⟨Nat.zero_le _, fun j h => absurd h (by omega)⟩) ?_; rintro k d fr hfr ⟨hk, hj⟩; simp only [updS, deadS, List.set_cons_succ, List.set_cons_zero, lint] at hfr; subst hfr; (try dsimp only))
      by_cases hlt : k < c.length
      · have hC := pf_r01CheckF (c.getD k 0) V
        by_cases he : lcheck (c.getD k 0) V = 0
        · rw [he] at hC
          (refine Wk.o ?_; (repeat revert hK K); refine W171fa ?_; (repeat intro K hK); refine ⟨?_⟩)
          exact whx_end (k + 1) ⟨by omega, fun j h1 => by
            rcases Nat.lt_or_ge j k with h3 | h3
            · exact hj j h3
            · rw [show j = k by omega, he]⟩ (by (first | omega | (dsimp only; omega) | (simp only; omega))) rfl (by first | rfl | (simp (disch := omega) only [go_sem, lint])) (fun d => by first | ((simp only [deadS, updS, List.set_cons_succ, List.set_cons_zero, lint, List.length_nil, List.length_cons]); done) | ((simp only [deadS, updS, List.set_cons_succ, List.set_cons_zero, lint, List.length_nil, List.length_cons]); rfl) | rfl)
        · have hall : (c.all fun x => lcheck x V == 0) = false := by
            rw [List.all_eq_false]
            exact ⟨c[k], List.getElem_mem hlt, by rw [List.getD_eq_getElem?_getD, List.getElem?_eq_getElem hlt] at he; simpa using he⟩
          rw [if_pos hall] at hcc
          have hs4 : (lcheck (c.getD k 0) V != 0) = true := by simpa using he
          generalize lcheck (c.getD k 0) V = e at *
          (refine Wk.o ?_; (repeat revert hK K); refine W171fa ?_; (repeat intro K hK); refine ⟨?_⟩)
          (simp only [bodyX]; refine ⟨_, by simp only [aresults, aresult, XS.as, Tryd.results52, aload, go_sem, Option.bind_some]; rfl, ?_⟩)
          exact ⟨ids_idB rfl, by rw [hcc], trivial⟩
      · obtain rfl : k = c.length := by omega
        have hall : (c.all fun x => lcheck x V == 0) = true := by
          rw [List.all_eq_true]
          intro x hx
          obtain ⟨j, hj2, rfl⟩ := List.mem_iff_getElem.1 hx
          have := hj j hj2
          rw [List.getD_eq_getElem?_getD, List.getElem?_eq_getElem hj2] at this
          simpa using this
        rw [if_neg (by rw [hall]; simp)] at hcc
        (refine Wk.o ?_; (repeat revert hK K); refine W171fa ?_; (repeat intro K hK); refine ⟨?_⟩)
        (refine AWH (σ := Nat) [29, 30, 31, 32, 35, 36, 37, 38, 39, 40, 41, 42, 4, 33, 34] (fun k => [(6, lint k)]) (fun k => []) (fun k => []) (fun k => k ≤ c.length ∧ (c.take k).Nodup) (fun k => c.length - k) 0 (by first | exact ⟨Nat.zero_le _, by simp⟩) ?_; rintro k d fr hfr ⟨hk2, hn⟩; simp only [updS, deadS, List.set_cons_succ, List.set_cons_zero, lint] at hfr; subst hfr; (try dsimp only))
        by_cases hlt2 : k < c.length
        · have hC := pf_hasF c k (c.getD k 0) hk2 hl
          by_cases hm : c.getD k 0 ∈ c.take k
          · rw [decide_eq_true hm] at hC
            rw [if_neg (fun h => ((nodup_take hlt2).1 (nodup_take_of h _)).2 hm)] at hcc
            (refine Wk.o ?_; (repeat revert hK K); refine W171fa ?_; (repeat intro K hK); refine ⟨?_⟩)
            (simp only [bodyX]; refine ⟨_, by simp only [aresults, aresult, XS.as, Tryd.results52, aload, go_sem, Option.bind_some]; rfl, ?_⟩)
            exact ⟨ids_idB rfl, by rw [hcc], trivial⟩
          · rw [decide_eq_false hm] at hC
            (refine Wk.o ?_; (repeat revert hK K); refine W171fa ?_; (repeat intro K hK); refine ⟨?_⟩)
            exact WEND (k + 1) ⟨by omega, (nodup_take hlt2).2 ⟨hn, hm⟩⟩ (by (first | omega | (dsimp only; omega) | (simp only; omega)))
        · obtain rfl : k = c.length := by omega
          rw [List.take_length] at hn
          rw [if_pos hn] at hcc
          (refine Wk.o ?_; (repeat revert hK K); refine W171fa ?_; (repeat intro K hK); refine ⟨?_⟩)
          (simp only [bodyX]; refine ⟨_, by simp only [aresults, aresult, XS.as, Tryd.results52, aload, go_sem, Option.bind_some]; rfl, ?_⟩)
          exact ⟨ids_idB rfl, by rw [hcc], trivial⟩
set_option maxRecDepth 100000 in
set_option maxHeartbeats 4000000 in
theorem pf_r04Check (V : Int) (xss : List (List Int)) (hl : xss.length ≤ 1000000) (hs : ShortR xss 100000) : PF Tryd.prog 32 [aForm V xss] fun r H' => r = .tup [lint (fAt V xss), lint (fErr V xss)] ∧ H' = [] := by
  refine SF.forgetAll ?_
  have hs1 := trivial; have hs2 := trivial; have hs3 := trivial; have hs4 := trivial; have hC := trivial; have hS := trivial
  unfold aForm iRows lint
  by_cases hV : V < 0 ∨ 100000 < V
  · rw [show fAt V xss = 0 from if_pos hV, show fErr V xss = 2 from if_pos hV]
    by_cases hV1 : V < 0
    · have hs1 : decide (V < 0) = true := decide_eq_true hV1
      (refine SF_of_bodyX (aload tt) (aload_ok tyOK) Tryd.func32 rfl (by kernel_rfl) ?_; simp only [Tryd.ntmps32, List.length_cons, List.length_nil, Nat.reduceAdd, Nat.reduceSub, List.replicate_succ, List.replicate_zero, List.cons_append, List.nil_append])
      (refine Wk.o ?_; (repeat revert hK K); refine W171fa ?_; (repeat intro K hK); refine ⟨?_⟩)
      (simp only [bodyX]; refine ⟨_, by simp only [aresults, aresult, XS.as, Tryd.results32, aload, go_sem, Option.bind_some]; rfl, ?_⟩)
      exact ⟨ids_idB rfl, rfl, trivial⟩
    · have hs1 : decide (V < 0) = false := decide_eq_false hV1
      have hs2 : decide (100000 < V) = true := decide_eq_true (by omega)
      (refine SF_of_bodyX (aload tt) (aload_ok tyOK) Tryd.func32 rfl (by kernel_rfl) ?_; simp only [Tryd.ntmps32, List.length_cons, List.length_nil, Nat.reduceAdd, Nat.reduceSub, List.replicate_succ, List.replicate_zero, List.cons_append, List.nil_append])
      (refine Wk.o ?_; (repeat revert hK K); refine W171fa ?_; (repeat intro K hK); refine ⟨?_⟩)
      (simp only [bodyX]; refine ⟨_, by simp only [aresults, aresult, XS.as, Tryd.results32, aload, go_sem, Option.bind_some]; rfl, ?_⟩)
      exact ⟨ids_idB rfl, rfl, trivial⟩
  · have hfa : fAt V xss = if fBad V xss = -1 then (xss.length : Int) else fBad V xss := by unfold fAt; rw [if_neg hV, if_neg (by omega)]
    have hfe : fErr V xss = if fBad V xss = -1 then 0 else fChk V (xss.getD (fBad V xss).toNat []) := by unfold fErr; rw [if_neg hV, if_neg (by omega)]
    have hs1 : decide (V < 0) = false := decide_eq_false (by omega)
    have hs2 : decide (100000 < V) = false := decide_eq_false (by omega)
    have hs3 : decide ((1000000 : Int) < (xss.length : Int)) = false := decide_eq_false (by omega)
    (refine SF_of_bodyX (aload tt) (aload_ok tyOK) Tryd.func32 rfl (by kernel_rfl) ?_; simp only [Tryd.ntmps32, List.length_cons, List.length_nil, Nat.reduceAdd, Nat.reduceSub, List.replicate_succ, List.replicate_zero, List.cons_append, List.nil_append])
    (refine Wk.o ?_; (repeat revert hK K); refine W171fa ?_; (repeat intro K hK); refine ⟨?_⟩)
    (refine AWH (σ := Nat) [18, 19, 20, 21, 22, 25, 26, 27, 28, 29, 30, 31, 32, 5, 33, 34, 35, 36, 2, 3, 37, 38, 39, 40, 41, 42, 43, 23, 24] (fun k => [(4, lint k)]) (fun k => [some ⟨25, [lt (.int .i64 V), .iv (.sl (fun j => iInts (xss.getD j [])) xss.length 1)]⟩]) (fun k => []) (fun k => k ≤ xss.length ∧ ∀ j, j < k → fChk V (xss.getD j []) = 0) (fun k => xss.length - k) 0 (by first | exact ⟨Nat.zero_le _, fun j h => absurd h (by omega)⟩) ?_; rintro k d fr hfr ⟨hk, hj⟩; simp only [updS, deadS, List.set_cons_succ, List.set_cons_zero, lint] at hfr; subst hfr; (try dsimp only))
    by_cases hlt : k < xss.length
    · have hsh : (xss.getD k []).length ≤ 1000000 := by
        have := hs (xss.getD k []) (by rw [List.getD_eq_getElem?_getD, List.getElem?_eq_getElem hlt]; exact List.getElem_mem hlt)
        omega
      have hC := pf_r02Check (xss.getD k []) V hsh
      have hS := pf_r02TautF (xss.getD k []) hsh
      have hch : fChk V (xss.getD k []) = if cCheck (xss.getD k []) V ≠ 0 then cCheck (xss.getD k []) V else if cTaut (xss.getD k []) = true then 11 else 0 := rfl
      have hbad : fChk V (xss.getD k []) ≠ 0 → fBad V xss = (k : Int) := fun h => fFind_at hlt (fun j h1 => by simpa using hj j h1) (by simpa using h)
      unfold iInts at hC hS
      generalize cCheck (xss.getD k []) V = e at *
      generalize cTaut (xss.getD k []) = b at *
      by_cases he : e = 0
      · subst he
        rw [if_neg (by simp)] at hch
        cases b with
        | false =>
          (refine Wk.o ?_; (repeat revert hK K); refine W171fa ?_; (repeat intro K hK); refine ⟨?_⟩)
          exact whx_end (k + 1) ⟨by omega, fun j h1 => by
            rcases Nat.lt_or_ge j k with h3 | h3
            · exact hj j h3
            · rw [show j = k by omega, hch]; rfl⟩ (by (first | omega | (dsimp only; omega) | (simp only; omega))) rfl (by first | rfl | (simp (disch := omega) only [go_sem, lint])) (fun d => by first | ((simp only [deadS, updS, List.set_cons_succ, List.set_cons_zero, lint, List.length_nil, List.length_cons]); done) | ((simp only [deadS, updS, List.set_cons_succ, List.set_cons_zero, lint, List.length_nil, List.length_cons]); rfl) | rfl)
        | true =>
          rw [if_pos rfl] at hch
          have hb := hbad (by rw [hch]; decide)
          rw [hb, if_neg (by omega)] at hfa hfe
          rw [Int.toNat_natCast, hch] at hfe
          (refine Wk.o ?_; (repeat revert hK K); refine W171fa ?_; (repeat intro K hK); refine ⟨?_⟩)
          (simp only [bodyX]; refine ⟨_, by simp only [aresults, aresult, XS.as, Tryd.results32, aload, go_sem, Option.bind_some]; rfl, ?_⟩)
          exact ⟨ids_idB rfl, by rw [hfa, hfe], trivial⟩
      · rw [if_pos he] at hch
        have hb := hbad (by rw [hch]; exact he)
        rw [hb, if_neg (by omega)] at hfa hfe
        rw [Int.toNat_natCast, hch] at hfe
        have hs4 : (e != 0) = true := by simpa using he
        (refine Wk.o ?_; (repeat revert hK K); refine W171fa ?_; (repeat intro K hK); refine ⟨?_⟩)
        (simp only [bodyX]; refine ⟨_, by simp only [aresults, aresult, XS.as, Tryd.results32, aload, go_sem, Option.bind_some]; rfl, ?_⟩)
        exact ⟨ids_idB rfl, by rw [hfa, hfe], trivial⟩
    · obtain rfl : k = xss.length := by omega
      have hb : fBad V xss = -1 := by unfold fBad fFind; rw [if_neg (by rw [fFind_no (d := []) (fun j h => by simpa using hj j h)]; simp)]
      rw [hb, if_pos rfl] at hfa hfe
      (refine Wk.o ?_; (repeat revert hK K); refine W171fa ?_; (repeat intro K hK); refine ⟨?_⟩)
      (simp only [bodyX]; refine ⟨_, by simp only [aresults, aresult, XS.as, Tryd.results32, aload, go_sem, Option.bind_some]; rfl, ?_⟩)
      exact ⟨ids_idB rfl, by rw [hfa, hfe], trivial⟩
set_option maxRecDepth 100000 in
set_option maxHeartbeats 1000000 in
theorem pf_rowsSelf6 (A : List (List Int)) (hA : A.length ≤ 1000000) (hr : ∀ k, (A.getD k []).length ≤ 1000000) : PF Tryd.prog 26 [.iv (iRows A), .iv (iRows A)] fun r H' => r = lt (.bool true) ∧ H' = [] := by
  refine SF.forgetAll ?_
  have hs1 := trivial; have hs2 := trivial; have hs3 := trivial; have hS := trivial
  have hSm := fun k => pf_sameInts (A.getD k []) (A.getD k []) (hr k) (hr k)
  simp only [decide_true] at hSm
  have hC := trivial
  (refine SF_of_bodyX (aload tt) (aload_ok tyOK) Tryd.func26 rfl (by kernel_rfl) ?_; simp only [Tryd.ntmps26, List.length_cons, List.length_nil, Nat.reduceAdd, Nat.reduceSub, List.replicate_succ, List.replicate_zero, List.cons_append, List.nil_append])
  unfold iRows
  (refine Wk.o ?_; (repeat revert hK K); refine W171fa ?_; (repeat intro K hK); refine ⟨?_⟩)
  (refine AWH (σ := Nat) [11, 12, 13, 14, 17, 18, 19, 20, 21, 22, 23, 24, 25, 26, 4, 15, 16] (fun k => [(5, lint k)]) (fun k => []) (fun k => []) (fun k => k ≤ A.length) (fun k => A.length - k) 0 (by first | exact Nat.zero_le _) ?_; rintro k d fr hfr hk; simp only [updS, deadS, List.set_cons_succ, List.set_cons_zero, lint] at hfr; subst hfr; (try dsimp only))
  by_cases hlt : k < A.length
  · have hC := hSm k
    (refine Wk.o ?_; (repeat revert hK K); refine W171fa ?_; (repeat intro K hK); refine ⟨?_⟩)
    exact WEND (k + 1) (by omega) (by (first | omega | (dsimp only; omega) | (simp only; omega)))
  · obtain rfl : k = A.length := by omega
    (refine Wk.o ?_; (repeat revert hK K); refine W171fa ?_; (repeat intro K hK); refine ⟨?_⟩)
    (simp only [bodyX]; refine ⟨_, by simp only [aresults, aresult, XS.as, Tryd.results26, aload, go_sem, Option.bind_some]; rfl, ?_⟩)
    exact ⟨ids_idB rfl, rfl, trivial⟩
set_option maxRecDepth 100000 in
set_option maxHeartbeats 1000000 in
theorem pf_formSelf6 (V : Int) (A : List (List Int)) (hA : A.length ≤ 1000000) (hr : ∀ k, (A.getD k []).length ≤ 1000000) : PF Tryd.prog 10 [aForm V A, aForm V A] fun r H' => r = lt (.bool true) ∧ H' = [] := by
  refine SF.forgetAll ?_
  have hs1 := trivial; have hs2 := trivial; have hs3 := trivial; have hC := trivial
  have hS := pf_rowsSelf6 A hA hr
  (refine SF_of_bodyX (aload tt) (aload_ok tyOK) Tryd.func10 rfl (by kernel_rfl) ?_; simp only [Tryd.ntmps10, List.length_cons, List.length_nil, Nat.reduceAdd, Nat.reduceSub, List.replicate_succ, List.replicate_zero, List.cons_append, List.nil_append])
  unfold aForm iRows lint
  (refine Wk.o ?_; (repeat revert hK K); refine W171fa ?_; (repeat intro K hK); refine ⟨?_⟩)
  (simp only [bodyX]; refine ⟨_, by simp only [aresults, aresult, XS.as, Tryd.results10, aload, go_sem, Option.bind_some]; rfl, ?_⟩)
  exact ⟨ids_idB rfl, rfl, trivial⟩
end Go.Proofs.YthgmjboldboclaaDoor
