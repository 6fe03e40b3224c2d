import Derived.Test.YtfpmfjmjnmjcdaaMgAR
import Derived.Test.YtfpmfjmjnmjcdaaMgBC
import Derived.Test.YtfpmfjmjnmjcdaaMgBB
import Derived.Test.YtfpmfjmjnmjcdaaMgAW
namespace Go.Proofs.Ytfpmfjmjnmjcdaa
open Go.RowKit
set_option linter.unusedVariables false
set_option linter.unusedSimpArgs false
end Go.Proofs.Ytfpmfjmjnmjcdaa
namespace Go.Proofs.Ytfpmfjmjnmjcdaa
open Go.RowKit
set_option linter.unusedVariables false
set_option linter.unusedVariables false
set_option linter.unusedSimpArgs false
theorem W82f8a {A B : Prop} (h9 : B) (w : B → A := by (intro h9; (repeat intro K hK); refine ⟨?_⟩; (repeat (first | (first | (with_reducible first | refine AX_block ?_ | refine AX_skip ?_ | refine AX_exit ?_ | refine AX_ret ?_ | refine AX_ift ?_ | refine AX_iff ?_ | refine AX_seq_k (fun K hK => ?_) | refine ContX.use (by assumption) ?_) | simp only [thenX, inBlockX, if_true, if_false, reduceCtorEq]) | (first | ((first | (with_reducible refine XRes_op tyOK ?_ ?_) | ((with_reducible first | refine ADF_op tyOK ?_ ?_ ?_ | refine ADX_op tyOK ?_ ?_ ?_); (focus rfl)) | (with_reducible refine ADR_alloc1 tyOK ?_ ?_) | ((with_reducible refine ADR_free1 tyOK ?_ ?_ ?_); (focus rfl)) | ((with_reducible refine ADR_free0 tyOK ?_ ?_ ?_); (focus rfl)) | ((with_reducible refine ADR_read1 tyOK ?_ ?_ ?_); (focus rfl)) | (with_reducible refine ADR_chg1 tyOK ?_ ?_)); (focus (first | (with_reducible rfl) | ((simp (disch := omega) only [go_sem]); done))); simp (disch := omega) only [go_sem , iFlat, hs1, hs2, hs3, hs4, hs5]; (first | (with_reducible refine XRes_id ?_) | (with_reducible refine ADF_id ?_) | (with_reducible refine ADR_id1 ?_) | (with_reducible refine ADX_id ?_))) | ((first | (with_reducible refine XRes_skip ?_ ?_) | (with_reducible refine ADF_skip (b := true) ?_ ?_) | (with_reducible refine ADX_skip ?_ ?_) | ((with_reducible refine ADR_skip1 ?_ ?_ ?_); (focus rfl))); (focus (first | rfl | ((simp (disch := omega) only [go_sem]); done))); (simp only [putL, List.set_cons_succ, List.set_cons_zero]))) | ((first | (with_reducible refine XRes_nil ?_) | (with_reducible refine ADF_nil ?_) | (with_reducible refine ADR_nil ?_) | (with_reducible refine ADX_nil ?_)); (first | refine hK _ ?_ | refine hK _ _ ?_); clear hK K) | ((first | (with_reducible refine AX_reg0 fun K hK => ?_) | (refine AX_drawG1 tyOK (by kernel_rfl) (by rfl) (by kernel_rfl) fun K hK => ?_) | (refine AX_drawT tyOK (by kernel_rfl) (by decide +kernel) fun K hK => ?_) | (refine AX_drawM1 (by kernel_rfl) (by rfl) (by decide +kernel) fun K hK => ?_) | (refine AX_drawA tyOK (by kernel_rfl) (by decide +kernel) fun K hK => ?_)); (first | simp only [go_sem, preN, effOp, runF, alM, mapOp, alD2, kdOf2, Bool.not_false, Bool.not_true, reduceCtorEq] | simp only [go_sem, preN, effOp, runF, alM, mapOp, Bool.not_false, Bool.not_true, reduceCtorEq] | simp only [go_sem, preN, effOp, runF, alD2, kdOf2, Bool.not_false, Bool.not_true, reduceCtorEq] | simp only [go_sem, alD2, kdOf2, Bool.not_false, Bool.not_true, reduceCtorEq] | simp only [go_sem, preN, effOp, runF, Bool.not_false, Bool.not_true, reduceCtorEq] | simp only [go_sem])) | (first | (first | refine XTL (by rfl) hC ?_ | refine ATL tyOK (by rfl) hC ?_ | refine XTL (by rfl) hD ?_ | refine ATL tyOK (by rfl) hD ?_ | refine XTL (by rfl) hF ?_ | refine ATL tyOK (by rfl) hF ?_)))); refine Wk.o ?_; (repeat revert hK K); exact h9)) : A := w h9
set_option maxRecDepth 100000 in
set_option maxHeartbeats 1000000 in
theorem pf_hasNo (xs : List Int) (n : Nat) (v : Int) (hx : n ≤ 1000000) (h : ∀ j, j < n → xs.getD j 0 ≠ v) : PF Try.prog 32 [.iv (.sl (fun j => .lit (.int .i64 (xs.getD j 0))) n 1), lt (.int .i64 v)] fun r H' => r = lt (.bool false) ∧ H' = [] := by
  refine SF.forgetAll ?_
  have hs1 := trivial; have hs2 := trivial; have hs3 := trivial; have hs4 := trivial; have hs5 := trivial
  have hC := trivial; have hD := trivial; have hF := trivial
  (refine SF_of_bodyX (aload tt) (aload_ok tyOK) Try.func32 rfl (by kernel_rfl) ?_; simp only [Try.ntmps32, List.length_cons, List.length_nil, Nat.reduceAdd, Nat.reduceSub, List.replicate_succ, List.replicate_zero, List.cons_append, List.nil_append])
  (refine Wk.o ?_; (repeat revert hK K); refine W82f8a ?_; (repeat intro K hK); refine ⟨?_⟩)
  (refine AWH (σ := Nat) [6, 7, 8, 9, 12, 13, 14, 15, 16, 17, 4, 10, 11] (fun k => [(5, lint k)]) (fun k => []) (fun k => []) (fun k => k ≤ n) (fun k => n - k) 0 (by first | exact Nat.zero_le _) ?_; rintro k d fr hfr hk; simp only [updS, deadS, List.set_cons_succ, List.set_cons_zero, lint] at hfr; subst hfr; (try dsimp only))
  by_cases hlt : k < n
  · have hne := h k hlt
    (refine Wk.o ?_; (repeat revert hK K); refine W82f8a ?_; (repeat intro K hK); refine ⟨?_⟩)
    exact WEND (k + 1) (show k + 1 ≤ n by omega) (by (first | omega | (dsimp only; omega) | (simp only; omega)))
  · (refine Wk.o ?_; (repeat revert hK K); refine W82f8a ?_; (repeat intro K hK); refine ⟨?_⟩)
    (simp only [bodyX]; refine ⟨_, by simp only [aresults, aresult, XS.as, Try.results32, aload, go_sem, Option.bind_some]; rfl, ?_⟩)
    exact ⟨.iv _, rfl, trivial⟩
theorem lcheck_ok3 {x : Int} {n : Nat} (hn : n ≤ 100000) (h1 : lvar x ≠ 0) (h2 : lvar x ≤ n) : lcheck x n = 0 := by
  unfold lcheck; rw [if_neg (by omega), if_neg (by omega)]
set_option maxRecDepth 100000 in
set_option maxHeartbeats 1000000 in
theorem pf_r03Chk {n : Nat} {L : List Int} (hn : n ≤ 100000) (hl : L.length ≤ 1000000) (rng : ∀ i, i < L.length → lvar (L.getD i 0) ≠ 0 ∧ lvar (L.getD i 0) ≤ n) (inj : ∀ i j, i < L.length → j < L.length → lvar (L.getD i 0) = lvar (L.getD j 0) → i = j) : PF Try.prog 13 [.iv (iInts L), lt (.int .i64 n)] fun r H' => r = lt (.int .i64 0) ∧ H' = [] := by
  refine SF.forgetAll ?_
  have hs1 := trivial; have hs2 := trivial; have hs3 := trivial; have hs4 := trivial; have hs5 := trivial
  have hC := trivial; have hD := trivial; have hF := trivial
  (refine SF_of_bodyX (aload tt) (aload_ok tyOK) Try.func13 rfl (by kernel_rfl) ?_; simp only [Try.ntmps13, List.length_cons, List.length_nil, Nat.reduceAdd, Nat.reduceSub, List.replicate_succ, List.replicate_zero, List.cons_append, List.nil_append])
  unfold iInts
  (refine Wk.o ?_; (repeat revert hK K); refine W82f8a ?_; (repeat intro K hK); refine ⟨?_⟩)
  (refine AWH (σ := Nat) [13, 14, 15, 16, 19, 20, 21, 22, 23, 24, 25, 4, 17, 18] (fun k => [(5, lint k)]) (fun k => []) (fun k => []) (fun k => k ≤ L.length) (fun k => L.length - k) 0 (by first | exact Nat.zero_le _) ?_; rintro k d fr hfr hk; simp only [updS, deadS, List.set_cons_succ, List.set_cons_zero, lint] at hfr; subst hfr; (try dsimp only))
  by_cases hlt : k < L.length
  · have hr := rng k hlt
    have hC := pf_check13 (L.getD k 0) n
    rw [lcheck_ok3 hn hr.1 hr.2] at hC
    (refine Wk.o ?_; (repeat revert hK K); refine W82f8a ?_; (repeat intro K hK); refine ⟨?_⟩)
    exact WEND (k + 1) (show k + 1 ≤ L.length by omega) (by (first | omega | (dsimp only; omega) | (simp only; omega)))
  · (refine Wk.o ?_; (repeat revert hK K); refine W82f8a ?_; (repeat intro K hK); refine ⟨?_⟩)
    (refine AWH (σ := Nat) [26, 27, 28, 29, 32, 33, 34, 35, 36, 37, 38, 39, 40, 41, 42, 43, 44, 45, 46, 47, 48, 49, 50, 4, 30, 31] (fun j => [(6, lint j)]) (fun j => []) (fun j => []) (fun j => j ≤ L.length) (fun j => L.length - j) 0 (by first | exact Nat.zero_le _) ?_; rintro j d fr hfr hj; simp only [updS, deadS, List.set_cons_succ, List.set_cons_zero, lint] at hfr; subst hfr; (try dsimp only))
    by_cases hlt2 : j < L.length
    · have hr := rng j hlt2
      have hb := lvar_bd (L.getD j 0)
      have hrr := lvar_range hr.1
      have hC := pf_hasNo L j (L.getD j 0) (by omega) fun i hi e => by
        have := inj i j (by omega) hlt2 (by rw [e]); omega
      have hD := pf_hasNo L j (-(L.getD j 0)) (by omega) fun i hi e => by
        have := inj i j (by omega) hlt2 (by rw [e, lvar_neg]); omega
      (refine Wk.o ?_; (repeat revert hK K); refine W82f8a ?_; (repeat intro K hK); refine ⟨?_⟩)
      exact WEND (j + 1) (show j + 1 ≤ L.length by omega) (by (first | omega | (dsimp only; omega) | (simp only; omega)))
    · (refine Wk.o ?_; (repeat revert hK K); refine W82f8a ?_; (repeat intro K hK); refine ⟨?_⟩)
      (simp only [bodyX]; refine ⟨_, by simp only [aresults, aresult, XS.as, Try.results13, aload, go_sem, Option.bind_some]; rfl, ?_⟩)
      exact ⟨.iv _, rfl, trivial⟩
theorem lv_mono {n : Nat} {L St Of Vl lv rs : List Int} (hT : TrS n L St Of Vl lv rs) {i : Nat} (hi : i + 1 < L.length) : lv.getD i 0 ≤ lv.getD (i + 1) 0 := by
  have h1 := hT.lvb i (by omega)
  have h2 := hT.lvb (i + 1) hi
  by_cases h : lv.getD i 0 ≤ lv.getD (i + 1) 0
  · exact h
  · exfalso
    obtain ⟨k, hk⟩ : ∃ k : Nat, lv.getD (i + 1) 0 = k := ⟨(lv.getD (i + 1) 0).toNat, by omega⟩
    have a := h1.2.2 k (by omega)
    have b := h2.2.2 k (by omega)
    omega
def bkP (L St : List Int) (lev : Int) : Nat := if bkL lev < St.length then (St.getD (bkL lev) 0).toNat else L.length
theorem bkP_le {n : Nat} {L St Of Vl lv rs : List Int} (hT : TrS n L St Of Vl lv rs) (lev : Int) : bkP L St lev ≤ L.length := by
  unfold bkP
  split
  · rename_i h; have := hT.stb _ h; omega
  · exact Nat.le_refl _
theorem bkP_iff {n : Nat} {L St Of Vl lv rs : List Int} (hT : TrS n L St Of Vl lv rs) (lev : Int) {i : Nat} (hi : i < L.length) : lv.getD i 0 ≤ (bkL lev : Int) ↔ i < bkP L St lev := by
  have h1 := hT.lvb i hi
  unfold bkP
  by_cases h : bkL lev < St.length
  · rw [if_pos h]
    have a := h1.2.2 _ h
    have b := hT.stb _ h
    omega
  · rw [if_neg h]; omega
theorem lmax {x : Int} (h : lvar x ≠ 0) : max x (-x) = lvar x := by
  have := lvar_range h
  have hb := lvar_bd x
  unfold lvar
  split
  · omega
  · split <;> omega
theorem lvar_lvar {x : Int} (h : lvar x ≠ 0) : lvar (lvar x) = lvar x := by
  have hb := lvar_bd x
  exact lvar_self (by omega) hb.2
theorem tv_lvar {L : List Int} {i : Nat} (hi : i < L.length) (h : lvar (L.getD i 0) ≠ 0) : tv L (lvar (L.getD i 0)) ≠ 0 := by
  have hm : L.getD i 0 ∈ L := mem_at.2 ⟨i, hi, rfl⟩
  rcases lvar_pm (x := L.getD i 0) (y := lvar (L.getD i 0)) h (lvar_lvar h).symm with e | e
  · unfold tv; rw [if_pos (e ▸ hm)]; decide
  · unfold tv
    split
    · decide
    · rw [if_pos (e ▸ hm)]; decide
theorem tv_gone {n : Nat} {L St Of Vl lv rs : List Int} (hT : TrS n L St Of Vl lv rs) {i k : Nat} (hi : i < L.length) (hk : k ≤ i) : trV n (L.take k) (lvar (L.getD i 0)) = 0 := by
  have hr := hT.rng i hi
  unfold trV
  split
  · unfold tv
    rw [if_neg, if_neg]
    · intro hm
      obtain ⟨j, hj, e⟩ := mem_at.1 hm
      rw [List.length_take] at hj
      rw [take_at (by omega)] at e
      have := hT.inj j i (by omega) hi (by rw [e, lvar_neg, lvar_lvar hr.1])
      omega
    · intro hm
      obtain ⟨j, hj, e⟩ := mem_at.1 hm
      rw [List.length_take] at hj
      rw [take_at (by omega)] at e
      have := hT.inj j i (by omega) hi (by rw [e, lvar_lvar hr.1])
      omega
  · rfl
theorem pf_BackAll {n : Nat} {L St Of Vl lv rs : List Int} (hT : TrS n L St Of Vl lv rs) (hLl : L.length ≤ 100000) (hSl : St.length ≤ 100000) (lev : Int) : SF Try.prog 18 [.optr 2 0, lt (.int .i64 lev)] [some ⟨73, Of.map lint⟩, some ⟨70, Vl.map l8⟩, some ⟨57, [.osl 3 0 L.length 1, .osl 4 0 St.length 1, .osl 0 0 (n + 1) 3, .osl 1 0 Vl.length 1, lt (.bool true)]⟩, some ⟨3, L.map lint⟩, some ⟨3, St.map lint⟩] fun y H' => ∃ V St1, TrS n (L.take (bkP L St lev)) St1 Of V (lv.take (bkP L St lev)) (rs.take (bkP L St lev)) ∧ St1.length ≤ bkL lev ∧ St1.length ≤ St.length ∧ ((y = lt (.slice none 0 0) ∧ (L.drop (bkP L St lev)).reverse = [] ∧ H' = hT13 n (L.take (bkP L St lev)) St1 Of V ++ [some ⟨24, [.optr 2 0]⟩]) ∨ (y = .osl 6 0 ((L.drop (bkP L St lev)).reverse).length 1 ∧ H' = hB13 n (L.take (bkP L St lev)) St1 Of V (L.drop (bkP L St lev)).reverse)) := by
  by_cases h : bkL lev < St.length
  · refine SF.mono (pf_BackY hT hLl hSl lev h) fun y H' hh => ?_
    obtain ⟨k0, V, h1, h2, h3, h4, h5⟩ := hh
    have e : bkP L St lev = k0 := by unfold bkP; rw [if_pos h, h1]; omega
    rw [e]
    exact ⟨V, _, h5, by rw [List.length_take]; omega, by rw [List.length_take]; omega, .inr ⟨h3, h4⟩⟩
  · refine SF.mono (pf_BackNo hT hLl hSl lev (by omega)) fun y H' hh => ?_
    have e : bkP L St lev = L.length := by unfold bkP; rw [if_neg h]
    rw [e, List.take_length, List.drop_length]
    have e1 : lv.take L.length = lv := by rw [← hT.l1, List.take_length]
    have e2 : rs.take L.length = rs := by rw [← hT.l2, List.take_length]
    rw [e1, e2]
    exact ⟨Vl, St, hT, by omega, Nat.le_refl _, .inl ⟨hh.1, rfl, hh.2⟩⟩
end Go.Proofs.Ytfpmfjmjnmjcdaa
namespace Go.Proofs.Ytfpmfjmjnmjcdaa
open Go.RowKit
set_option linter.unusedVariables false
set_option linter.unusedSimpArgs false
theorem W510ba {A B : Prop} (h9 : B) (w : B → A := by (intro h9; (repeat intro K hK); refine ⟨?_⟩; (repeat (first | (first | (with_reducible first | refine AX_block ?_ | refine AX_skip ?_ | refine AX_exit ?_ | refine AX_ret ?_ | refine AX_ift ?_ | refine AX_iff ?_ | refine AX_seq_k (fun K hK => ?_) | refine ContX.use (by assumption) ?_) | simp only [thenX, inBlockX, if_true, if_false, reduceCtorEq]) | (first | ((first | (with_reducible refine XRes_op tyOK ?_ ?_) | ((with_reducible first | refine ADF_op tyOK ?_ ?_ ?_ | refine ADX_op tyOK ?_ ?_ ?_); (focus rfl)) | (with_reducible refine ADR_alloc1 tyOK ?_ ?_) | ((with_reducible refine ADR_free1 tyOK ?_ ?_ ?_); (focus rfl)) | ((with_reducible refine ADR_free0 tyOK ?_ ?_ ?_); (focus rfl)) | ((with_reducible refine ADR_read1 tyOK ?_ ?_ ?_); (focus rfl)) | (with_reducible refine ADR_chg1 tyOK ?_ ?_)); (focus (first | (with_reducible rfl) | ((simp (disch := omega) only [go_sem]); done))); simp (disch := omega) only [go_sem , List.length_set, hs1, hs2, hs3, hs4, hs5, hs6, hs7, Int.toNat_zero, Int.toNat_one, List.length_nil, hT1, hT2, hT3]; (first | (with_reducible refine XRes_id ?_) | (with_reducible refine ADF_id ?_) | (with_reducible refine ADR_id1 ?_) | (with_reducible refine ADX_id ?_))) | ((first | (with_reducible refine XRes_skip ?_ ?_) | (with_reducible refine ADF_skip (b := true) ?_ ?_) | (with_reducible refine ADX_skip ?_ ?_) | ((with_reducible refine ADR_skip1 ?_ ?_ ?_); (focus rfl))); (focus (first | rfl | ((simp (disch := omega) only [go_sem]); done))); (simp only [putL, List.set_cons_succ, List.set_cons_zero]))) | ((first | (with_reducible refine XRes_nil ?_) | (with_reducible refine ADF_nil ?_) | (with_reducible refine ADR_nil ?_) | (with_reducible refine ADX_nil ?_)); (first | refine hK _ ?_ | refine hK _ _ ?_); clear hK K) | ((first | (with_reducible refine AX_reg0 fun K hK => ?_) | (refine AX_drawG1 tyOK (by kernel_rfl) (by rfl) (by kernel_rfl) fun K hK => ?_) | (refine AX_drawT tyOK (by kernel_rfl) (by decide +kernel) fun K hK => ?_) | (refine AX_drawM1 (by kernel_rfl) (by rfl) (by decide +kernel) fun K hK => ?_) | (refine AX_drawA tyOK (by kernel_rfl) (by decide +kernel) fun K hK => ?_)); (first | simp only [go_sem, preN, effOp, runF, alM, mapOp, alD2, kdOf2, Bool.not_false, Bool.not_true, reduceCtorEq] | simp only [go_sem, preN, effOp, runF, alM, mapOp, Bool.not_false, Bool.not_true, reduceCtorEq] | simp only [go_sem, preN, effOp, runF, alD2, kdOf2, Bool.not_false, Bool.not_true, reduceCtorEq] | simp only [go_sem, alD2, kdOf2, Bool.not_false, Bool.not_true, reduceCtorEq] | simp only [go_sem, preN, effOp, runF, Bool.not_false, Bool.not_true, reduceCtorEq] | simp only [go_sem])) | (first | (first | refine XTL (by rfl) hC ?_ | refine ATL tyOK (by rfl) hC ?_) | ((refine XRes_say rfl hS2 (SnapL.cons (snap_ints rfl rfl) (SnapL.cons (snap_ints rfl rfl) (SnapL.nil _))) ?_); (simp only [putL, List.set_cons_succ, List.set_cons_zero])) | ((refine XRes_fn (by rfl) (qV1 _ ⟨rfl, rfl, rfl, rfl, rfl⟩) ?_); (rintro r H' ⟨rfl, rfl⟩); (simp only [putL, List.set_cons_succ, List.set_cons_zero])) | ((refine XRes_fn (by rfl) (qV2 _ ⟨rfl, rfl, rfl, rfl, rfl⟩) ?_); (rintro r H' ⟨rfl, rfl⟩); (simp only [putL, List.set_cons_succ, List.set_cons_zero])) | ((refine XRes_fn (by rfl) (qV3 _ ⟨rfl, rfl, rfl, rfl, rfl⟩) ?_); (rintro r H' ⟨rfl, rfl⟩); (simp only [putL, List.set_cons_succ, List.set_cons_zero])) | ((refine XRes_fn (by rfl) (qL1 _ ⟨rfl, rfl, rfl, rfl, rfl⟩) ?_); (rintro r H' ⟨rfl, rfl⟩); (simp only [putL, List.set_cons_succ, List.set_cons_zero])) | ((refine XRes_fn (by rfl) (qL2 _ ⟨rfl, rfl, rfl, rfl, rfl⟩) ?_); (rintro r H' ⟨rfl, rfl⟩); (simp only [putL, List.set_cons_succ, List.set_cons_zero])) | ((refine XRes_fn (by rfl) (qR1 _ ⟨rfl, rfl, rfl, rfl, rfl⟩) ?_); (rintro r H' ⟨rfl, rfl⟩); (simp only [putL, List.set_cons_succ, List.set_cons_zero])) | ((refine XRes_fn (by rfl) (qR2 _ ⟨rfl, rfl, rfl, rfl, rfl⟩) ?_); (rintro r H' ⟨rfl, rfl⟩); (simp only [putL, List.set_cons_succ, List.set_cons_zero])) | ((refine XRes_fn (by rfl) (qP _ ⟨rfl, rfl, rfl, rfl, rfl⟩) ?_); (rintro r H' ⟨rfl, rfl⟩); (simp only [putL, List.set_cons_succ, List.set_cons_zero])) | ((refine XRes_fn (by rfl) (qD _ ⟨rfl, rfl, rfl, rfl, rfl⟩) ?_); (rintro r H' ⟨rfl, rfl⟩); (simp only [putL, List.set_cons_succ, List.set_cons_zero])) | ((refine XRes_fn (by rfl) (qO _ ⟨rfl, rfl, rfl, rfl, rfl⟩) ?_); (rintro r H' ⟨rfl, rfl⟩); (simp only [putL, List.set_cons_succ, List.set_cons_zero])) | ((refine XRes_fn (by rfl) (pf_tDecide0 _ 1) ?_); (rintro r H' ⟨rfl, rfl⟩); (simp only [putL, List.set_cons_succ, List.set_cons_zero])) | ((refine XRes_fn (by rfl) (pf_tLevel0 _ 1) ?_); (rintro r H' ⟨rfl, rfl⟩); (simp only [putL, List.set_cons_succ, List.set_cons_zero]))))); refine Wk.o ?_; (repeat revert hK K); exact h9)) : A := w h9
set_option maxRecDepth 100000 in
set_option maxHeartbeats 1000000 in
theorem pf_tDecide0 (H : AHeap) (x : Int) : SF Try.prog 21 [lt (.pointer none), lt (.int .i64 x)] H fun r H' => r = lt (.int .i64 1) ∧ H' = H := by
  have hs1 := trivial; have hs2 := trivial; have hs3 := trivial; have hs4 := trivial; have hs5 := trivial; have hs6 := trivial; have hs7 := trivial; have hT1 := trivial; have hT2 := trivial; have hT3 := trivial
  have hC := trivial; have hD := trivial
  have hM := pf_tmay0 H x
  (refine SF_of_bodyX (aload tt) (aload_ok tyOK) Try.func21 rfl (by kernel_rfl) ?_; simp only [Try.ntmps21, List.length_cons, List.length_nil, Nat.reduceAdd, Nat.reduceSub, List.replicate_succ, List.replicate_zero, List.cons_append, List.nil_append])
  (refine Wk.o ?_; (repeat revert hK K); refine W510ba ?_; (repeat intro K hK); refine ⟨?_⟩)
  refine XRes_fn (by rfl) hM ?_
  rintro r H' ⟨rfl, rfl⟩
  (simp only [putL, List.set_cons_succ, List.set_cons_zero])
  (refine Wk.o ?_; (repeat revert hK K); refine W510ba ?_; (repeat intro K hK); refine ⟨?_⟩)
  (simp only [bodyX]; refine ⟨_, by simp only [aresults, aresult, XS.as, Try.results21, aload, go_sem, Option.bind_some]; rfl, ?_⟩)
  exact ⟨rfl, trivial⟩
theorem tr_of {n : Nat} {L St Of Vl lv rs : List Int} (hT : TrS n L St Of Vl lv rs) (i : Nat) (v : Int) (hi : i < L.length) (hv : lvar (L.getD i 0) = v) (h1 : 1 ≤ v) (h2 : v ≤ n) (h3 : tv L v ≠ 0) : trLevel n L Of v = lv.getD i 0 ∧ trReason n L Of v = rs.getD i 0 ∧ trPlace n L Of v = i := by
  have h := hT.of i hi
  rw [hv] at h
  unfold trLevel trReason trPlace
  rw [if_pos ⟨h1, h2, h3⟩, if_pos ⟨h1, h2, h3⟩, if_pos ⟨h1, h2, h3⟩]
  exact ⟨h.1, h.2.1, h.2.2⟩
set_option maxRecDepth 100000 in
set_option maxHeartbeats 4000000 in
theorem pf_awake13 : PF Try.prog 5 [] fun r H' => r = lt (.bool true) ∧ H' = [] := by
  refine SF.forgetAll ?_
  have hs1 := trivial; have hs2 := trivial; have hs3 := trivial; have hs4 := trivial; have hs5 := trivial; have hs6 := trivial; have hs7 := trivial; have hT1 := trivial; have hT2 := trivial; have hT3 := trivial
  have hC := trivial; have hD := trivial
  have hN := pf_tNew 3 (by omega)
  have hC := pf_tNewNo (-1) (.inl (by omega))
  (refine SF_of_bodyX (aload tt) (aload_ok tyOK) Try.func5 rfl (by kernel_rfl) ?_; simp only [Try.ntmps5, List.length_cons, List.length_nil, Nat.reduceAdd, Nat.reduceSub, List.replicate_succ, List.replicate_zero, List.cons_append, List.nil_append])
  (refine Wk.o ?_; (repeat revert hK K); refine W510ba ?_; (repeat intro K hK); refine ⟨?_⟩)
  refine XRes_fn (by rfl) hN ?_
  rintro r H' ⟨rfl, Of, Vl, rfl, hT⟩
  (simp only [putL, List.set_cons_succ, List.set_cons_zero])
  (refine Wk.o ?_; (repeat revert hK K); refine W510ba ?_; (repeat intro K hK); refine ⟨?_⟩)
  refine XRes_fn (by rfl) (pf_DecideYes hT (by simp) (by simp) 1 (by decide)) ?_
  rintro r H' ⟨rfl, Of1, Vl1, a1, b1, rfl, hT1⟩
  unfold hD13
  (simp only [putL, List.set_cons_succ, List.set_cons_zero])
  clear hT
  simp only [List.nil_append, List.length_nil, Nat.zero_add] at hT1 ⊢
  refine XRes_ren [0, 1, 2, 8, 6] [] ?fr1 (hT13 3 [1] [0] Of1 Vl1) (by decide) (by decide) (by (simp (disch := omega) only [go_sem, lint])) (by (simp (disch := omega) only [go_sem, lint])) (by (simp (disch := omega) only [go_sem, lint]); rfl) ?hfr1 (fun d2 => ?_)
  case hfr1 => (simp (disch := omega) only [go_sem, lint]); rfl
  simp only [deadS]
  unfold hT13
  (refine Wk.o ?_; (repeat revert hK K); refine W510ba ?_; (repeat intro K hK); refine ⟨?_⟩)
  refine XRes_fn (by rfl) (pf_ImplyYes hT1 (by simp) (by simp) 2 7 (by decide)) ?_
  rintro r H' ⟨rfl, Of2, Vl2, b2, rfl, hT2⟩
  unfold hI13
  (simp only [putL, List.set_cons_succ, List.set_cons_zero])
  clear hT1
  simp only [List.cons_append, List.nil_append, List.length_cons, List.length_nil, Nat.zero_add] at hT2 ⊢
  refine XRes_ren [0, 1, 2, 6, 4] [] ?fr2 (hT13 3 [1, 2] [0] Of2 Vl2) (by decide) (by decide) (by (simp (disch := omega) only [go_sem, lint])) (by (simp (disch := omega) only [go_sem, lint])) (by (simp (disch := omega) only [go_sem, lint]); rfl) ?hfr2 (fun d2 => ?_)
  case hfr2 => (simp (disch := omega) only [go_sem, lint]); rfl
  simp only [deadS]
  unfold hT13
  have hT1 := trivial
  (refine Wk.o ?_; (repeat revert hK K); refine W510ba ?_; (repeat intro K hK); refine ⟨?_⟩)
  refine XRes_fn (by rfl) (pf_DecideYes hT2 (by simp) (by simp) (-3) (by decide)) ?_
  rintro r H' ⟨rfl, Of3, Vl3, a3, b3, rfl, hT3⟩
  unfold hD13
  (simp only [putL, List.set_cons_succ, List.set_cons_zero])
  clear hT2
  simp only [List.cons_append, List.nil_append, List.length_cons, List.length_nil, Nat.zero_add] at hT3 ⊢
  refine XRes_ren [0, 1, 2, 8, 6] [] ?fr3 (hT13 3 [1, 2, -3] [0, 2] Of3 Vl3) (by decide) (by decide) (by (simp (disch := omega) only [go_sem, lint])) (by (simp (disch := omega) only [go_sem, lint])) (by (simp (disch := omega) only [go_sem, lint]); rfl) ?hfr3 (fun d2 => ?_)
  case hfr3 => (simp (disch := omega) only [go_sem, lint]); rfl
  simp only [deadS]
  unfold hT13
  have hT2 := trivial
  (refine Wk.o ?_; (repeat revert hK K); refine W510ba ?_; (repeat intro K hK); refine ⟨?_⟩)
  refine XRes_fn (by rfl) (pf_DecideNo hT3 (by simp) (by simp) 3 (by decide)) ?_
  rintro r H' ⟨rfl, rfl⟩
  rw [show mayE 3 [1, 2, -3] 3 = 21 by decide]
  unfold hT13
  (simp only [putL, List.set_cons_succ, List.set_cons_zero])
  (refine Wk.o ?_; (repeat revert hK K); refine W510ba ?_; (repeat intro K hK); refine ⟨?_⟩)
  refine XRes_fn (by rfl) (pf_ImplyNo hT3 (by simp) (by simp) 4 0 (by decide)) ?_
  rintro r H' ⟨rfl, rfl⟩
  rw [show impE 3 [1, 2, -3] 4 0 = 10 by decide]
  unfold hT13
  (simp only [putL, List.set_cons_succ, List.set_cons_zero])
  (refine Wk.o ?_; (repeat revert hK K); refine W510ba ?_; (repeat intro K hK); refine ⟨?_⟩)
  refine XRes_fn (by rfl) (pf_tLits (q1 := 3) (q2 := 4) ⟨rfl, rfl, rfl, rfl, rfl⟩ hT3 (by simp)) ?_
  rintro r H' ⟨rfl, rfl⟩
  (simp only [putL, List.set_cons_succ, List.set_cons_zero])
  (refine Wk.o ?_; (repeat revert hK K); refine W510ba ?_; (repeat intro K hK); refine ⟨?_⟩)
  refine XRes_fn (by rfl) (pf_BackYx hT3 (by simp) (by simp) 1 (by decide) _) ?_
  rintro r H' ⟨k0, V, hk, _, rfl, rfl, hT4⟩
  obtain rfl : k0 = 2 := by have : (2 : Int) = k0 := hk; omega
  change TrS 3 [1, 2] [0] Of3 V [1, 1] [-1, 7] at hT4
  clear hT3 hk
  have hT3 := trivial
  unfold hB13x
  change XRes _ _ _ (_, ⟨putL _ _ (.osl 7 0 1 1), [some ⟨73, Of3.map lint⟩, some ⟨70, V.map l8⟩, some ⟨57, [.osl 3 0 2 1, .osl 4 0 1 1, .osl 0 0 4 3, .osl 1 0 V.length 1, lt (.bool true)]⟩, some ⟨3, [lint 1, lint 2]⟩, some ⟨3, [lint 0]⟩, some ⟨3, [lint 1, lint 2, lint (-3)]⟩, some ⟨24, [.optr 2 0]⟩, some ⟨3, [lint (-3)]⟩], _⟩)
  (simp only [putL, List.set_cons_succ, List.set_cons_zero])
  obtain ⟨o1, o2, o3⟩ := tr_of hT4 0 1 (by decide) (by decide) (by decide) (by decide) (by decide)
  obtain ⟨o4, o5, o6⟩ := tr_of hT4 1 2 (by decide) (by decide) (by decide) (by decide) (by decide)
  have o7 : trLevel 3 [1, 2] Of3 3 = -1 := by unfold trLevel; rw [if_neg]; exact fun h => h.2.2 (by decide)
  change trLevel 3 [1, 2] Of3 1 = 1 at o1
  change trReason 3 [1, 2] Of3 1 = -1 at o2
  change trLevel 3 [1, 2] Of3 2 = 1 at o4
  change trReason 3 [1, 2] Of3 2 = 7 at o5
  change trPlace 3 [1, 2] Of3 2 = 1 at o6
  have v1 : trV 3 [1, 2] 2 = 1 := by decide
  have v2 : trV 3 [1, 2] (-1) = -1 := by decide
  have v3 : trV 3 [1, 2] 3 = 0 := by decide
  have hS1 := pf_sameInts [1, 2, -3] [1, 2, -3] (by simp) (by simp)
  have hS2 := pf_sameInts [-3] [-3] (by simp) (by simp)
  rw [decide_eq_true rfl] at hS1 hS2
  have qV1 := fun (H : AHeap) (hH : TrAt 3 H 3 4 [1, 2] [0] Of3 V) => pf_tValue hH hT4 2
  have qV2 := fun (H : AHeap) (hH : TrAt 3 H 3 4 [1, 2] [0] Of3 V) => pf_tValue hH hT4 (-1)
  have qV3 := fun (H : AHeap) (hH : TrAt 3 H 3 4 [1, 2] [0] Of3 V) => pf_tValue hH hT4 3
  have qL1 := fun (H : AHeap) (hH : TrAt 3 H 3 4 [1, 2] [0] Of3 V) => pf_tLevel hH hT4 2
  have qL2 := fun (H : AHeap) (hH : TrAt 3 H 3 4 [1, 2] [0] Of3 V) => pf_tLevel hH hT4 3
  have qR1 := fun (H : AHeap) (hH : TrAt 3 H 3 4 [1, 2] [0] Of3 V) => pf_tReason hH hT4 2
  have qR2 := fun (H : AHeap) (hH : TrAt 3 H 3 4 [1, 2] [0] Of3 V) => pf_tReason hH hT4 1
  have qP := fun (H : AHeap) (hH : TrAt 3 H 3 4 [1, 2] [0] Of3 V) => pf_tPlace hH hT4 2
  have qD := fun (H : AHeap) (hH : TrAt 3 H 3 4 [1, 2] [0] Of3 V) => pf_tDepth hH hT4 (by simp)
  have qO := fun (H : AHeap) (hH : TrAt 3 H 3 4 [1, 2] [0] Of3 V) => pf_tOpen hH hT4 (by simp)
  rw [v1] at qV1
  rw [v2] at qV2
  rw [v3] at qV3
  rw [o4] at qL1
  rw [o7] at qL2
  rw [o5] at qR1
  rw [o2] at qR2
  rw [o6] at qP
  clear o1 o2 o3 o4 o5 o6 o7 v1 v2 v3
  (refine Wk.o ?_; (repeat revert hK K); refine W510ba ?_; (repeat intro K hK); refine ⟨?_⟩)
  refine XRes_say rfl hS1 (SnapL.cons (snap_ints rfl rfl) (SnapL.cons (snap_ints rfl rfl) (SnapL.nil _))) ?_
  (simp only [putL, List.set_cons_succ, List.set_cons_zero])
  simp only [List.length_cons, List.length_nil] at qD qO
  (refine Wk.o ?_; (repeat revert hK K); refine W510ba ?_; (repeat intro K hK); refine ⟨?_⟩)
  (simp only [bodyX]; refine ⟨_, by simp only [aresults, aresult, XS.as, Try.results5, aload, go_sem, Option.bind_some]; rfl, ?_⟩)
  exact ⟨.iv _, rfl, trivial⟩
end Go.Proofs.Ytfpmfjmjnmjcdaa
