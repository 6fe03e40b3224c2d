import Derived.Test.YtfpmfjmjnmjcdaaMgAA
import Derived.Test.YtfpmfjmjnmjcdaaMgAB
import Derived.Test.YtfpmfjmjnmjcdaaMgAR
import Derived.Test.YtfpmfjmjnmjcdaaMgBD
import Derived.Test.YtfpmfjmjnmjcdaaMgBC
namespace Go.Proofs.Ytfpmfjmjnmjcdaa
open Go.RowKit
set_option linter.unusedVariables false
theorem wf_i13 {x : Int} (h : (Lit.int .i64 x).wf = true) : -9223372036854775808 ≤ x ∧ x ≤ 9223372036854775807 := bounds_i64 h
theorem trailPlays_walk (w : World) (x : Int) (wx : (Lit.int .i64 x).wf = true) (a : Option Addr) (len cap : Nat) (hs : StructRow w 3 a len cap) (y : Int) (wy : (Lit.int .i64 y).wf = true) :
    Calls Try.prog 3 #[.int .i64 x, .slice a len cap, .int .i64 y] w fun e w' => e = .returned (.bool true) ∧ Below w.heap.size w w' := by
  obtain ⟨us, h1, h2, h3⟩ := hs.flat (by decide)
  have b1 := hs.2.1; have c1 := hs.1
  unfold maxLen at b1
  exact law_of (SF.mono (pf_TrailPlays x us len y (wf_i13 wx) (wf_i13 wy) (by omega) h1 h2) fun r H' h => h.1) w _ (RL.three (.iv _ _ (.lit _)) (.iv _ _ h3) (.iv _ _ (.lit _)))
end Go.Proofs.Ytfpmfjmjnmjcdaa
namespace Go.Proofs.Ytfpmfjmjnmjcdaa
open Go.RowKit
set_option linter.unusedVariables false
set_option linter.unusedSimpArgs false
end Go.Proofs.Ytfpmfjmjnmjcdaa
namespace Go.Proofs.Ytfpmfjmjnmjcdaa
open Go.RowKit
set_option linter.unusedVariables false
set_option linter.unusedVariables false
set_option linter.unusedSimpArgs false
theorem W82f8a {A B : Prop} (h9 : B) (w : B → A := by (intro h9; (repeat intro K hK); refine ⟨?_⟩; (repeat (first | (first | (with_reducible first | refine AX_block ?_ | refine AX_skip ?_ | refine AX_exit ?_ | refine AX_ret ?_ | refine AX_ift ?_ | refine AX_iff ?_ | refine AX_seq_k (fun K hK => ?_) | refine ContX.use (by assumption) ?_) | simp only [thenX, inBlockX, if_true, if_false, reduceCtorEq]) | (first | ((first | (with_reducible refine XRes_op tyOK ?_ ?_) | ((with_reducible first | refine ADF_op tyOK ?_ ?_ ?_ | refine ADX_op tyOK ?_ ?_ ?_); (focus rfl)) | (with_reducible refine ADR_alloc1 tyOK ?_ ?_) | ((with_reducible refine ADR_free1 tyOK ?_ ?_ ?_); (focus rfl)) | ((with_reducible refine ADR_free0 tyOK ?_ ?_ ?_); (focus rfl)) | ((with_reducible refine ADR_read1 tyOK ?_ ?_ ?_); (focus rfl)) | (with_reducible refine ADR_chg1 tyOK ?_ ?_)); (focus (first | (with_reducible rfl) | ((simp (disch := omega) only [go_sem]); done))); simp (disch := omega) only [go_sem , iFlat, hs1, hs2, hs3, hs4, hs5]; (first | (with_reducible refine XRes_id ?_) | (with_reducible refine ADF_id ?_) | (with_reducible refine ADR_id1 ?_) | (with_reducible refine ADX_id ?_))) | ((first | (with_reducible refine XRes_skip ?_ ?_) | (with_reducible refine ADF_skip (b := true) ?_ ?_) | (with_reducible refine ADX_skip ?_ ?_) | ((with_reducible refine ADR_skip1 ?_ ?_ ?_); (focus rfl))); (focus (first | rfl | ((simp (disch := omega) only [go_sem]); done))); (simp only [putL, List.set_cons_succ, List.set_cons_zero]))) | ((first | (with_reducible refine XRes_nil ?_) | (with_reducible refine ADF_nil ?_) | (with_reducible refine ADR_nil ?_) | (with_reducible refine ADX_nil ?_)); (first | refine hK _ ?_ | refine hK _ _ ?_); clear hK K) | ((first | (with_reducible refine AX_reg0 fun K hK => ?_) | (refine AX_drawG1 tyOK (by kernel_rfl) (by rfl) (by kernel_rfl) fun K hK => ?_) | (refine AX_drawT tyOK (by kernel_rfl) (by decide +kernel) fun K hK => ?_) | (refine AX_drawM1 (by kernel_rfl) (by rfl) (by decide +kernel) fun K hK => ?_) | (refine AX_drawA tyOK (by kernel_rfl) (by decide +kernel) fun K hK => ?_)); (first | simp only [go_sem, preN, effOp, runF, alM, mapOp, alD2, kdOf2, Bool.not_false, Bool.not_true, reduceCtorEq] | simp only [go_sem, preN, effOp, runF, alM, mapOp, Bool.not_false, Bool.not_true, reduceCtorEq] | simp only [go_sem, preN, effOp, runF, alD2, kdOf2, Bool.not_false, Bool.not_true, reduceCtorEq] | simp only [go_sem, alD2, kdOf2, Bool.not_false, Bool.not_true, reduceCtorEq] | simp only [go_sem, preN, effOp, runF, Bool.not_false, Bool.not_true, reduceCtorEq] | simp only [go_sem])) | (first | (first | refine XTL (by rfl) hC ?_ | refine ATL tyOK (by rfl) hC ?_ | refine XTL (by rfl) hD ?_ | refine ATL tyOK (by rfl) hD ?_ | refine XTL (by rfl) hF ?_ | refine ATL tyOK (by rfl) hF ?_)))); refine Wk.o ?_; (repeat revert hK K); exact h9)) : A := w h9
set_option maxRecDepth 100000 in
set_option maxHeartbeats 1000000 in
theorem pf_hasNo (xs : List Int) (n : Nat) (v : Int) (hx : n ≤ 1000000) (h : ∀ j, j < n → xs.getD j 0 ≠ v) : PF Try.prog 32 [.iv (.sl (fun j => .lit (.int .i64 (xs.getD j 0))) n 1), lt (.int .i64 v)] fun r H' => r = lt (.bool false) ∧ H' = [] := by
  refine SF.forgetAll ?_
  have hs1 := trivial; have hs2 := trivial; have hs3 := trivial; have hs4 := trivial; have hs5 := trivial
  have hC := trivial; have hD := trivial; have hF := trivial
  (refine SF_of_bodyX (aload tt) (aload_ok tyOK) Try.func32 rfl (by kernel_rfl) ?_; simp only [Try.ntmps32, List.length_cons, List.length_nil, Nat.reduceAdd, Nat.reduceSub, List.replicate_succ, List.replicate_zero, List.cons_append, List.nil_append])
  (refine Wk.o ?_; (repeat revert hK K); refine W82f8a ?_; (repeat intro K hK); refine ⟨?_⟩)
  (refine AWH (σ := Nat) [6, 7, 8, 9, 12, 13, 14, 15, 16, 17, 4, 10, 11] (fun k => [(5, lint k)]) (fun k => []) (fun k => []) (fun k => k ≤ n) (fun k => n - k) 0 (by first | exact Nat.zero_le _) ?_; rintro k d fr hfr hk; simp only [updS, deadS, List.set_cons_succ, List.set_cons_zero, lint] at hfr; subst hfr; (try dsimp only))
  by_cases hlt : k < n
  · have hne := h k hlt
    (refine Wk.o ?_; (repeat revert hK K); refine W82f8a ?_; (repeat intro K hK); refine ⟨?_⟩)
    exact WEND (k + 1) (show k + 1 ≤ n by omega) (by (first | omega | (dsimp only; omega) | (simp only; omega)))
  · (refine Wk.o ?_; (repeat revert hK K); refine W82f8a ?_; (repeat intro K hK); refine ⟨?_⟩)
    (simp only [bodyX]; refine ⟨_, by simp only [aresults, aresult, XS.as, Try.results32, aload, go_sem, Option.bind_some]; rfl, ?_⟩)
    exact ⟨.iv _, rfl, trivial⟩
theorem lcheck_ok3 {x : Int} {n : Nat} (hn : n ≤ 100000) (h1 : lvar x ≠ 0) (h2 : lvar x ≤ n) : lcheck x n = 0 := by
  unfold lcheck; rw [if_neg (by omega), if_neg (by omega)]
set_option maxRecDepth 100000 in
set_option maxHeartbeats 1000000 in
theorem pf_r03Chk {n : Nat} {L : List Int} (hn : n ≤ 100000) (hl : L.length ≤ 1000000) (rng : ∀ i, i < L.length → lvar (L.getD i 0) ≠ 0 ∧ lvar (L.getD i 0) ≤ n) (inj : ∀ i j, i < L.length → j < L.length → lvar (L.getD i 0) = lvar (L.getD j 0) → i = j) : PF Try.prog 13 [.iv (iInts L), lt (.int .i64 n)] fun r H' => r = lt (.int .i64 0) ∧ H' = [] := by
  refine SF.forgetAll ?_
  have hs1 := trivial; have hs2 := trivial; have hs3 := trivial; have hs4 := trivial; have hs5 := trivial
  have hC := trivial; have hD := trivial; have hF := trivial
  (refine SF_of_bodyX (aload tt) (aload_ok tyOK) Try.func13 rfl (by kernel_rfl) ?_; simp only [Try.ntmps13, List.length_cons, List.length_nil, Nat.reduceAdd, Nat.reduceSub, List.replicate_succ, List.replicate_zero, List.cons_append, List.nil_append])
  unfold iInts
  (refine Wk.o ?_; (repeat revert hK K); refine W82f8a ?_; (repeat intro K hK); refine ⟨?_⟩)
  (refine AWH (σ := Nat) [13, 14, 15, 16, 19, 20, 21, 22, 23, 24, 25, 4, 17, 18] (fun k => [(5, lint k)]) (fun k => []) (fun k => []) (fun k => k ≤ L.length) (fun k => L.length - k) 0 (by first | exact Nat.zero_le _) ?_; rintro k d fr hfr hk; simp only [updS, deadS, List.set_cons_succ, List.set_cons_zero, lint] at hfr; subst hfr; (try dsimp only))
  by_cases hlt : k < L.length
  · have hr := rng k hlt
    have hC := pf_check13 (L.getD k 0) n
    rw [lcheck_ok3 hn hr.1 hr.2] at hC
    (refine Wk.o ?_; (repeat revert hK K); refine W82f8a ?_; (repeat intro K hK); refine ⟨?_⟩)
    exact WEND (k + 1) (show k + 1 ≤ L.length by omega) (by (first | omega | (dsimp only; omega) | (simp only; omega)))
  · (refine Wk.o ?_; (repeat revert hK K); refine W82f8a ?_; (repeat intro K hK); refine ⟨?_⟩)
    (refine AWH (σ := Nat) [26, 27, 28, 29, 32, 33, 34, 35, 36, 37, 38, 39, 40, 41, 42, 43, 44, 45, 46, 47, 48, 49, 50, 4, 30, 31] (fun j => [(6, lint j)]) (fun j => []) (fun j => []) (fun j => j ≤ L.length) (fun j => L.length - j) 0 (by first | exact Nat.zero_le _) ?_; rintro j d fr hfr hj; simp only [updS, deadS, List.set_cons_succ, List.set_cons_zero, lint] at hfr; subst hfr; (try dsimp only))
    by_cases hlt2 : j < L.length
    · have hr := rng j hlt2
      have hb := lvar_bd (L.getD j 0)
      have hrr := lvar_range hr.1
      have hC := pf_hasNo L j (L.getD j 0) (by omega) fun i hi e => by
        have := inj i j (by omega) hlt2 (by rw [e]); omega
      have hD := pf_hasNo L j (-(L.getD j 0)) (by omega) fun i hi e => by
        have := inj i j (by omega) hlt2 (by rw [e, lvar_neg]); omega
      (refine Wk.o ?_; (repeat revert hK K); refine W82f8a ?_; (repeat intro K hK); refine ⟨?_⟩)
      exact WEND (j + 1) (show j + 1 ≤ L.length by omega) (by (first | omega | (dsimp only; omega) | (simp only; omega)))
    · (refine Wk.o ?_; (repeat revert hK K); refine W82f8a ?_; (repeat intro K hK); refine ⟨?_⟩)
      (simp only [bodyX]; refine ⟨_, by simp only [aresults, aresult, XS.as, Try.results13, aload, go_sem, Option.bind_some]; rfl, ?_⟩)
      exact ⟨.iv _, rfl, trivial⟩
theorem lv_mono {n : Nat} {L St Of Vl lv rs : List Int} (hT : TrS n L St Of Vl lv rs) {i : Nat} (hi : i + 1 < L.length) : lv.getD i 0 ≤ lv.getD (i + 1) 0 := by
  have h1 := hT.lvb i (by omega)
  have h2 := hT.lvb (i + 1) hi
  by_cases h : lv.getD i 0 ≤ lv.getD (i + 1) 0
  · exact h
  · exfalso
    obtain ⟨k, hk⟩ : ∃ k : Nat, lv.getD (i + 1) 0 = k := ⟨(lv.getD (i + 1) 0).toNat, by omega⟩
    have a := h1.2.2 k (by omega)
    have b := h2.2.2 k (by omega)
    omega
def bkP (L St : List Int) (lev : Int) : Nat := if bkL lev < St.length then (St.getD (bkL lev) 0).toNat else L.length
theorem bkP_le {n : Nat} {L St Of Vl lv rs : List Int} (hT : TrS n L St Of Vl lv rs) (lev : Int) : bkP L St lev ≤ L.length := by
  unfold bkP
  split
  · rename_i h; have := hT.stb _ h; omega
  · exact Nat.le_refl _
theorem bkP_iff {n : Nat} {L St Of Vl lv rs : List Int} (hT : TrS n L St Of Vl lv rs) (lev : Int) {i : Nat} (hi : i < L.length) : lv.getD i 0 ≤ (bkL lev : Int) ↔ i < bkP L St lev := by
  have h1 := hT.lvb i hi
  unfold bkP
  by_cases h : bkL lev < St.length
  · rw [if_pos h]
    have a := h1.2.2 _ h
    have b := hT.stb _ h
    omega
  · rw [if_neg h]; omega
theorem lmax {x : Int} (h : lvar x ≠ 0) : max x (-x) = lvar x := by
  have := lvar_range h
  have hb := lvar_bd x
  unfold lvar
  split
  · omega
  · split <;> omega
theorem lvar_lvar {x : Int} (h : lvar x ≠ 0) : lvar (lvar x) = lvar x := by
  have hb := lvar_bd x
  exact lvar_self (by omega) hb.2
theorem tv_lvar {L : List Int} {i : Nat} (hi : i < L.length) (h : lvar (L.getD i 0) ≠ 0) : tv L (lvar (L.getD i 0)) ≠ 0 := by
  have hm : L.getD i 0 ∈ L := mem_at.2 ⟨i, hi, rfl⟩
  rcases lvar_pm (x := L.getD i 0) (y := lvar (L.getD i 0)) h (lvar_lvar h).symm with e | e
  · unfold tv; rw [if_pos (e ▸ hm)]; decide
  · unfold tv
    split
    · decide
    · rw [if_pos (e ▸ hm)]; decide
theorem tv_gone {n : Nat} {L St Of Vl lv rs : List Int} (hT : TrS n L St Of Vl lv rs) {i k : Nat} (hi : i < L.length) (hk : k ≤ i) : trV n (L.take k) (lvar (L.getD i 0)) = 0 := by
  have hr := hT.rng i hi
  unfold trV
  split
  · unfold tv
    rw [if_neg, if_neg]
    · intro hm
      obtain ⟨j, hj, e⟩ := mem_at.1 hm
      rw [List.length_take] at hj
      rw [take_at (by omega)] at e
      have := hT.inj j i (by omega) hi (by rw [e, lvar_neg, lvar_lvar hr.1])
      omega
    · intro hm
      obtain ⟨j, hj, e⟩ := mem_at.1 hm
      rw [List.length_take] at hj
      rw [take_at (by omega)] at e
      have := hT.inj j i (by omega) hi (by rw [e, lvar_lvar hr.1])
      omega
  · rfl
theorem pf_BackAll {n : Nat} {L St Of Vl lv rs : List Int} (hT : TrS n L St Of Vl lv rs) (hLl : L.length ≤ 100000) (hSl : St.length ≤ 100000) (lev : Int) : SF Try.prog 18 [.optr 2 0, lt (.int .i64 lev)] [some ⟨73, Of.map lint⟩, some ⟨70, Vl.map l8⟩, some ⟨57, [.osl 3 0 L.length 1, .osl 4 0 St.length 1, .osl 0 0 (n + 1) 3, .osl 1 0 Vl.length 1, lt (.bool true)]⟩, some ⟨3, L.map lint⟩, some ⟨3, St.map lint⟩] fun y H' => ∃ V St1, TrS n (L.take (bkP L St lev)) St1 Of V (lv.take (bkP L St lev)) (rs.take (bkP L St lev)) ∧ St1.length ≤ bkL lev ∧ St1.length ≤ St.length ∧ ((y = lt (.slice none 0 0) ∧ (L.drop (bkP L St lev)).reverse = [] ∧ H' = hT13 n (L.take (bkP L St lev)) St1 Of V ++ [some ⟨24, [.optr 2 0]⟩]) ∨ (y = .osl 6 0 ((L.drop (bkP L St lev)).reverse).length 1 ∧ H' = hB13 n (L.take (bkP L St lev)) St1 Of V (L.drop (bkP L St lev)).reverse)) := by
  by_cases h : bkL lev < St.length
  · refine SF.mono (pf_BackY hT hLl hSl lev h) fun y H' hh => ?_
    obtain ⟨k0, V, h1, h2, h3, h4, h5⟩ := hh
    have e : bkP L St lev = k0 := by unfold bkP; rw [if_pos h, h1]; omega
    rw [e]
    exact ⟨V, _, h5, by rw [List.length_take]; omega, by rw [List.length_take]; omega, .inr ⟨h3, h4⟩⟩
  · refine SF.mono (pf_BackNo hT hLl hSl lev (by omega)) fun y H' hh => ?_
    have e : bkP L St lev = L.length := by unfold bkP; rw [if_neg h]
    rw [e, List.take_length, List.drop_length]
    have e1 : lv.take L.length = lv := by rw [← hT.l1, List.take_length]
    have e2 : rs.take L.length = rs := by rw [← hT.l2, List.take_length]
    rw [e1, e2]
    exact ⟨Vl, St, hT, by omega, Nat.le_refl _, .inl ⟨hh.1, rfl, hh.2⟩⟩
end Go.Proofs.Ytfpmfjmjnmjcdaa
