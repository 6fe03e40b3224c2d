import Derived.Test.YtcjnikkmjhagmaaGreatDoorMgBO
import Derived.Test.YtcjnikkmjhagmaaGreatDoorMgBQ
import Derived.Test.YtcjnikkmjhagmaaGreatDoorMgBL
namespace Go.Proofs.YtcjnikkmjhagmaaGreatDoor
open Go.RowKit
set_option linter.unusedVariables false
set_option linter.unusedSimpArgs false
theorem W761ba {A B : Prop} (h9 : B) (w : B → A := by (intro h9; (repeat intro K hK); refine ⟨?_⟩; (repeat (first | (first | (with_reducible first | refine AX_block ?_ | refine AX_skip ?_ | refine AX_exit ?_ | refine AX_ret ?_ | refine AX_ift ?_ | refine AX_iff ?_ | refine AX_seq_k (fun K hK => ?_) | refine ContX.use (by assumption) ?_) | simp only [thenX, inBlockX, if_true, if_false, reduceCtorEq]) | (first | ((with_reducible first | refine XOP tyOK ?_ | refine AOP tyOK ?_); simp (disch := omega) only [go_sem , iInts, iRows, hs1, hs2, hs3, List.length_nil]; (with_reducible first | refine XRes_id ?_ | refine ADF_id ?_)) | (with_reducible first | refine XSK ?_ | refine ASK ?_)) | ((first | (with_reducible refine XRes_nil ?_) | (with_reducible refine ADF_nil ?_)); (first | refine hK _ ?_ | refine hK _ _ ?_); clear hK K) | ((first | (with_reducible refine AX_reg0 fun K hK => ?_) | (refine AX_drawG1 tyOK (by kernel_rfl) (by rfl) (by kernel_rfl) fun K hK => ?_)); simp only [go_sem]) | (first | (first | refine XTL (by rfl) hC ?_ | refine ATL tyOK (by rfl) hC ?_ | refine XTL (by rfl) hS ?_ | refine ATL tyOK (by rfl) hS ?_)))); refine Wk.o ?_; (repeat revert hK K); exact h9)) : A := w h9
set_option maxRecDepth 100000 in
set_option maxHeartbeats 1000000 in
theorem pf_rowsSelf (A : List (List Int)) (hA : A.length ≤ 1000000) (hr : ∀ k, (A.getD k []).length ≤ 1000000) : PF Tryz.prog 17 [.iv (iRows A), .iv (iRows A)] fun r H' => r = lt (.bool true) ∧ H' = [] := by
  refine SF.forgetAll ?_
  have hs1 := trivial; have hs2 := trivial; have hs3 := trivial; have hS := trivial
  have hSm := fun k => pf_sameInts (A.getD k []) (A.getD k []) (hr k) (hr k)
  simp only [decide_true] at hSm
  have hC := trivial
  (refine SF_of_bodyX (aload tt) (aload_ok tyOK) Tryz.func17 rfl (by kernel_rfl) ?_; simp only [Tryz.ntmps17, List.length_cons, List.length_nil, Nat.reduceAdd, Nat.reduceSub, List.replicate_succ, List.replicate_zero, List.cons_append, List.nil_append])
  unfold iRows
  (refine Wk.o ?_; (repeat revert hK K); refine W761ba ?_; (repeat intro K hK); refine ⟨?_⟩)
  (refine AWH (σ := Nat) [11, 12, 13, 14, 17, 18, 19, 20, 21, 22, 23, 24, 25, 26, 4, 15, 16] (fun k => [(5, lint k)]) (fun k => []) (fun k => []) (fun k => k ≤ A.length) (fun k => A.length - k) 0 (by first | exact Nat.zero_le _) ?_; rintro k d fr hfr hk; simp only [updS, deadS, List.set_cons_succ, List.set_cons_zero, lint] at hfr; subst hfr; (try dsimp only))
  by_cases hlt : k < A.length
  · have hC := hSm k
    (refine Wk.o ?_; (repeat revert hK K); refine W761ba ?_; (repeat intro K hK); refine ⟨?_⟩)
    exact WEND (k + 1) (by omega) (by (first | omega | (dsimp only; omega) | (simp only; omega)))
  · obtain rfl : k = A.length := by omega
    (refine Wk.o ?_; (repeat revert hK K); refine W761ba ?_; (repeat intro K hK); refine ⟨?_⟩)
    (simp only [bodyX]; refine ⟨_, by simp only [aresults, aresult, XS.as, Tryz.results17, aload, go_sem, Option.bind_some]; rfl, ?_⟩)
    exact ⟨ids_idB rfl, rfl, trivial⟩
set_option maxRecDepth 100000 in
set_option maxHeartbeats 1000000 in
theorem pf_formSelf (V : Int) (A : List (List Int)) (hA : A.length ≤ 1000000) (hr : ∀ k, (A.getD k []).length ≤ 1000000) : PF Tryz.prog 11 [aForm V A, aForm V A] fun r H' => r = lt (.bool true) ∧ H' = [] := by
  refine SF.forgetAll ?_
  have hs1 := trivial; have hs2 := trivial; have hs3 := trivial; have hC := trivial
  have hS := pf_rowsSelf A hA hr
  (refine SF_of_bodyX (aload tt) (aload_ok tyOK) Tryz.func11 rfl (by kernel_rfl) ?_; simp only [Tryz.ntmps11, List.length_cons, List.length_nil, Nat.reduceAdd, Nat.reduceSub, List.replicate_succ, List.replicate_zero, List.cons_append, List.nil_append])
  unfold aForm iRows lint
  (refine Wk.o ?_; (repeat revert hK K); refine W761ba ?_; (repeat intro K hK); refine ⟨?_⟩)
  (simp only [bodyX]; refine ⟨_, by simp only [aresults, aresult, XS.as, Tryz.results11, aload, go_sem, Option.bind_some]; rfl, ?_⟩)
  exact ⟨ids_idB rfl, rfl, trivial⟩
end Go.Proofs.YtcjnikkmjhagmaaGreatDoor
namespace Go.Proofs.YtcjnikkmjhagmaaGreatDoor
open Go.RowKit
set_option linter.unusedVariables false
set_option linter.unusedSimpArgs false
def fw04 (xss : List (List Int)) : Bool := decide (xss.length ≤ 200) && xss.all fun c => decide (c.length ≤ 50)
theorem fw04_iff (xss : List (List Int)) : fw04 xss = true ↔ xss.length ≤ 200 ∧ ∀ c ∈ xss, c.length ≤ 50 := by
  unfold fw04; rw [Bool.and_eq_true, decide_eq_true_iff, List.all_eq_true]
  simp only [decide_eq_true_iff]
theorem W042fa {A B : Prop} (h9 : B) (w : B → A := by (intro h9; (repeat intro K hK); refine ⟨?_⟩; (repeat (first | (first | (with_reducible first | refine AX_block ?_ | refine AX_skip ?_ | refine AX_exit ?_ | refine AX_ret ?_ | refine AX_ift ?_ | refine AX_iff ?_ | refine AX_seq_k (fun K hK => ?_) | refine ContX.use (by assumption) ?_) | simp only [thenX, inBlockX, if_true, if_false, reduceCtorEq]) | (first | ((with_reducible first | refine XOP tyOK ?_ | refine AOP tyOK ?_); simp (disch := omega) only [go_sem , hs1, hs2, hs3, hs4, Int.toNat_zero, Int.toNat_one, List.length_nil]; (with_reducible first | refine XRes_id ?_ | refine ADF_id ?_)) | (with_reducible first | refine XSK ?_ | refine ASK ?_)) | ((first | (with_reducible refine XRes_nil ?_) | (with_reducible refine ADF_nil ?_)); (first | refine hK _ ?_ | refine hK _ _ ?_); clear hK K) | ((first | (with_reducible refine AX_reg0 fun K hK => ?_) | (refine AX_drawG1 tyOK (by kernel_rfl) (by rfl) (by kernel_rfl) fun K hK => ?_)); simp only [go_sem]) | fail)); refine Wk.o ?_; (repeat revert hK K); exact h9)) : A := w h9
set_option maxRecDepth 100000 in
set_option maxHeartbeats 2000000 in
theorem pf_few04 (x : Int) (h : List (List Int)) (hl : h.length ≤ 9223372036854775807) : PF Tryz.prog 14 [.agg [lt (.int .i64 x), .iv (.sl (fun j => iInts (h.getD j [])) h.length 1)]] fun r H' => r = lt (.bool (fw04 h)) ∧ H' = [] := by
  refine SF.forgetAll ?_
  have hs1 := trivial; have hs2 := trivial; have hs3 := trivial; have hs4 := trivial
  by_cases h1 : h.length ≤ 200
  · (refine SF_of_bodyX (aload tt) (aload_ok tyOK) Tryz.func14 rfl (by kernel_rfl) ?_; simp only [Tryz.ntmps14, List.length_cons, List.length_nil, Nat.reduceAdd, Nat.reduceSub, List.replicate_succ, List.replicate_zero, List.cons_append, List.nil_append])
    (refine Wk.o ?_; (repeat revert hK K); refine W042fa ?_; (repeat intro K hK); refine ⟨?_⟩)
    (refine AWH (σ := Nat) [8, 9, 10, 11, 12, 15, 16, 17, 18, 19, 20, 21, 2, 13, 14] (fun k => [(3, lint k)]) (fun k => [some ⟨31, [lt (.int .i64 x), .iv (.sl (fun j => iInts (h.getD j [])) h.length 1)]⟩]) (fun k => []) (fun k => k ≤ h.length ∧ ∀ j, j < k → (h.getD j []).length ≤ 50) (fun k => h.length - k) 0 (by first | exact ⟨Nat.zero_le _, fun j hj => absurd hj (by omega)⟩) ?_; rintro k d fr hfr ⟨hk, hj⟩; simp only [updS, deadS, List.set_cons_succ, List.set_cons_zero, lint] at hfr; subst hfr; (try dsimp only))
    by_cases hlt : k < h.length
    · have hs1 : iInts (h.getD k []) = .sl (fun j => .lit (.int .i64 ((h.getD k []).getD j 0))) (h.getD k []).length 1 := rfl
      by_cases h2 : (h.getD k []).length ≤ 50
      · (refine Wk.o ?_; (repeat revert hK K); refine W042fa ?_; (repeat intro K hK); refine ⟨?_⟩)
        exact whx_end (k + 1) ⟨by omega, fun j h1 => by
          rcases Nat.lt_or_ge j k with h3 | h3
          · exact hj j h3
          · rw [show j = k by omega]; exact h2⟩ (by (first | omega | (dsimp only; omega) | (simp only; omega))) rfl (by first | rfl | (simp (disch := omega) only [go_sem, lint])) (fun d => by first | ((simp only [deadS, updS, List.set_cons_succ, List.set_cons_zero, lint, List.length_nil, List.length_cons]); done) | ((simp only [deadS, updS, List.set_cons_succ, List.set_cons_zero, lint, List.length_nil, List.length_cons]); rfl) | rfl)
      · (refine Wk.o ?_; (repeat revert hK K); refine W042fa ?_; (repeat intro K hK); refine ⟨?_⟩)
        (simp only [bodyX]; refine ⟨_, by simp only [aresults, aresult, XS.as, Tryz.results14, aload, go_sem, Option.bind_some]; rfl, ?_⟩)
        exact ⟨.iv _, by
          have : fw04 h = false := by
            cases e : fw04 h
            · rfl
            · rw [fw04_iff] at e
              exact absurd (e.2 (h.getD k []) (by simp [List.getD, hlt])) h2
          rw [this], trivial⟩
    · obtain rfl : k = h.length := by omega
      (refine Wk.o ?_; (repeat revert hK K); refine W042fa ?_; (repeat intro K hK); refine ⟨?_⟩)
      (simp only [bodyX]; refine ⟨_, by simp only [aresults, aresult, XS.as, Tryz.results14, aload, go_sem, Option.bind_some]; rfl, ?_⟩)
      exact ⟨.iv _, by
        have : fw04 h = true := (fw04_iff h).2 ⟨h1, fun c hc => by
          obtain ⟨j, hj2, rfl⟩ := List.mem_iff_getElem.1 hc
          have := hj j hj2
          rwa [show h.getD j [] = h[j] by simp [List.getD, hj2]] at this⟩
        rw [this], trivial⟩
  · (refine SF_of_bodyX (aload tt) (aload_ok tyOK) Tryz.func14 rfl (by kernel_rfl) ?_; simp only [Tryz.ntmps14, List.length_cons, List.length_nil, Nat.reduceAdd, Nat.reduceSub, List.replicate_succ, List.replicate_zero, List.cons_append, List.nil_append])
    (refine Wk.o ?_; (repeat revert hK K); refine W042fa ?_; (repeat intro K hK); refine ⟨?_⟩)
    (simp only [bodyX]; refine ⟨_, by simp only [aresults, aresult, XS.as, Tryz.results14, aload, go_sem, Option.bind_some]; rfl, ?_⟩)
    exact ⟨.iv _, by
      have : fw04 h = false := by
        cases e : fw04 h
        · rfl
        · exact absurd ((fw04_iff h).1 e).1 h1
      rw [this], trivial⟩
end Go.Proofs.YtcjnikkmjhagmaaGreatDoor
namespace Go.Proofs.YtcjnikkmjhagmaaGreatDoor
open Go.RowKit
set_option linter.unusedVariables false
set_option linter.unusedSimpArgs false
def k1 : Ob := ⟨1, 1, 0, [⟨0, 0, 0, 7⟩]⟩
abbrev k1A : AV := .agg [lt (.int .i64 1), lt (.int .i64 1), lt (.int .i64 0), .iv (iFlat [0, 0, 0, 7] 1 4)]
abbrev kE : Op5 := ⟨1, 0, 0, 1, 7⟩
theorem k1_ok : k1.Ok := ⟨by decide, by decide, by decide⟩
theorem k_S1 : okS [kE] := fun i => by
  cases i with
  | zero => exact (show -9223372036854775808 ≤ (0 : Int) ∧ (0 : Int) ≤ 9223372036854775807 by decide)
  | succ i => exact (show -9223372036854775808 ≤ (0 : Int) ∧ (0 : Int) ≤ 9223372036854775807 by decide)
theorem k_S0 : okS [] := fun i => (show -9223372036854775808 ≤ (0 : Int) ∧ (0 : Int) ≤ 9223372036854775807 by decide)
def kR : List (List Int) := enR k1 [kE]
theorem kR_len : kR.length = 6 := by decide +kernel
theorem k_Enc0 : PF Tryz.prog 9 [k1A, lt (.slice none 0 0)] fun r H' => r = .tup [aForm 1 [[1], [1]], lt (.int .i64 0)] ∧ H' = [] := by
  have h := pf_Encode k1 [] (by decide) k1_ok (by decide) k_S0
  have he : eE k1 [] = 0 := by decide +kernel
  rw [enA_yes he, he, show nVars (mN k1 []) (mS k1 []) = 1 by decide +kernel, show enR k1 [] = [[1], [1]] by decide +kernel] at h
  exact SF.args h fun G vs hv => rl_nil2 hv
theorem k_Enc1 : PF Tryz.prog 9 [k1A, .iv (iFlat [1, 0, 0, 1, 7] 1 5)] fun r H' => r = .tup [aForm 4 kR, lt (.int .i64 0)] ∧ H' = [] := by
  have h := pf_Encode k1 [kE] (by decide) k1_ok (by decide) k_S1
  have he : eE k1 [kE] = 0 := by decide +kernel
  rw [enA_yes he, he, show nVars (mN k1 [kE]) (mS k1 [kE]) = 4 by decide +kernel] at h
  exact h
def k0 : Ob := ⟨0, 0, 0, []⟩
abbrev k0A : AV := .agg [lt (.int .i64 0), lt (.int .i64 0), lt (.int .i64 0), lt (.slice none 0 0)]
theorem k_obj0 {n : Nat} {G : Gh} {a b c : AV} {get : Nat → IV} {sz : Nat} {v : Value} (h : RA n G (.agg [a, b, c, lt (.slice none 0 0)]) v) : RA n G (.agg [a, b, c, .iv (.sl get 0 sz)]) v := by
  cases h with
  | agg _ vs h1 h2 h3 =>
    refine .agg _ vs (by simpa using h1) (fun i x u e1 e2 => ?_) (by simp only [List.all_cons, List.all_nil, Bool.and_eq_true] at h3 ⊢; exact ⟨h3.1, h3.2.1, h3.2.2.1, rfl, trivial⟩)
    rcases i with _ | _ | _ | _ | i
    · exact h2 0 x u e1 e2
    · exact h2 1 x u e1 e2
    · exact h2 2 x u e1 e2
    · simp at e1; subst e1; exact ra_nil (h2 3 _ u rfl e2)
    · simp at e1
theorem k_Enc2 : PF Tryz.prog 9 [k0A, lt (.slice none 0 0)] fun r H' => r = .tup [aForm 0 [], lt (.int .i64 2)] ∧ H' = [] := by
  have h := pf_Encode k0 [] (by decide) ⟨by decide, by decide, by decide⟩ (by decide) k_S0
  have he : eE k0 [] = 2 := by decide +kernel
  rw [enA_no (by rw [he]; decide), he] at h
  exact SF.args h fun G vs hv => by
    obtain ⟨v, us, rfl, h1, h2⟩ := (rl_nil2 (get := fun j => .lit (.int .i64 ((flatO []).getD j 0))) (sz := 5) hv).uncons
    exact RL.cons (k_obj0 h1) h2
def kP : ByteArray := ⟨#[112, 108, 97, 99, 101, 32, 48, 32, 48]⟩
def kI : ByteArray := ⟨#[105, 110, 32, 48]⟩
def kS0 : ByteArray := ⟨#[115, 116, 97, 116, 101, 32, 48, 32, 48]⟩
def kS1 : ByteArray := ⟨#[115, 116, 97, 116, 101, 32, 49, 32, 48]⟩
theorem k_nm : nmX k1 [kE] = [kP, kI, kS0, kS1] := by kernel_rfl
theorem k_Names : PF Tryz.prog 15 [k1A, .iv (iFlat [1, 0, 0, 1, 7] 1 5)] fun r H' => r = .iv (iStrs [kP, kI, kS0, kS1]) ∧ H' = [] := by
  have h := pf_Names k1 [kE] (by decide) k1_ok (by decide) k_S1
  rw [k_nm] at h
  exact h
theorem k_ok (i : Bool) (h : i = true → True) : plOk k1 [kE] [0] [true] := by
  have hm : mAll ([kE].length : Nat) [0] = true := mAll_iff.2 ⟨rfl, fun i hi => by
    have h1 : i < 1 := hi
    have h2 : i = 0 := by omega
    subst h2; exact List.mem_cons_self⟩
  exact ⟨by decide +kernel, hm, rfl, by decide +kernel, by decide +kernel⟩
theorem k_say : sayP k1 [kE] [true, true, true, true] := by
  have e1 : ooX (mN k1 [kE]) (mS k1 [kE]) [true, true, true, true] = [0] := by decide +kernel
  have e2 : inT [kE] (mN k1 [kE]) (mS k1 [kE]) [true, true, true, true] = [true] := by decide +kernel
  have e3 : sxX (mN k1 [kE]) (mS k1 [kE]) [true, true, true, true] = [0, 0] := by decide +kernel
  have hp := k_ok true fun _ => trivial
  refine ⟨by decide +kernel, by decide +kernel, by decide +kernel, by decide +kernel, ?_, ?_⟩
  · rw [e1, e2]; exact (pl_yes hp).2
  · rw [e1, e2, e3, (pl_yes hp).1]; decide +kernel
theorem k_no : ¬ sayP k1 [kE] [true, false, true, true] := fun h => by
  have e1 : ooX (mN k1 [kE]) (mS k1 [kE]) [true, false, true, true] = [0] := by decide +kernel
  have e2 : inT [kE] (mN k1 [kE]) (mS k1 [kE]) [true, false, true, true] = [false] := by decide +kernel
  have hp : ¬ plOk k1 [kE] [0] [false] := fun hh => absurd (hh.2.2.2.1 0 (by decide)) (by decide +kernel)
  have h5 := h.2.2.2.2.1
  rw [e1, e2, (pl_no hp).2] at h5
  cases h5
theorem k_Say1 : PF Tryz.prog 12 [k1A, .iv (iFlat [1, 0, 0, 1, 7] 1 5), .iv (iBools [true, true, true, true])] fun r H' => r = lt (.bool true) ∧ H' = [] := by
  have h := pf_Says k1 [kE] [true, true, true, true] (by decide) k1_ok (by decide) k_S1 (by decide)
  rw [decide_eq_true k_say] at h
  exact h
theorem k_Say2 : PF Tryz.prog 12 [k1A, .iv (iFlat [1, 0, 0, 1, 7] 1 5), .iv (iBools [true, false, true, true])] fun r H' => r = lt (.bool false) ∧ H' = [] := by
  have h := pf_Says k1 [kE] [true, false, true, true] (by decide) k1_ok (by decide) k_S1 (by decide)
  rw [decide_eq_false k_no] at h
  exact h
theorem sh_rowsK {xs : List (List Int)} (h : xs.all (fun r => decide (r.length ≤ 1000000)) = true) (k : Nat) : (xs.getD k []).length ≤ 1000000 := by
  rcases Nat.lt_or_ge k xs.length with hk | hk
  · rw [List.getD_eq_getElem?_getD, List.getElem?_eq_getElem hk]
    have := List.all_eq_true.1 h _ (List.getElem_mem hk)
    simpa using this
  · rw [List.getD_eq_getElem?_getD, List.getElem?_eq_none hk]; decide
def kL : List (List (List Int)) := [[[1]], [], [[2], [3]]]
theorem k_Con : PF Tryz.prog 18 [.iv (iRows3 kL)] fun r H' => r = .iv (iRows [[1], [2], [3]]) ∧ H' = [] :=
  pf_Concat kL (by decide) (fun k => by rcases k with _ | _ | _ | k <;> first | exact (by decide) | exact (Nat.zero_le _)) (fun k j => by
    rcases k with _ | _ | _ | k
    · exact sh_rowsK (xs := [[1]]) (by decide) j
    · exact sh_rowsK (xs := []) (by decide) j
    · exact sh_rowsK (xs := [[2], [3]]) (by decide) j
    · exact sh_rowsK (xs := []) (by decide) j)
theorem snapC_kL {H : AHeap} {o : Nat} {t : TypeId} (h : H[o]? = some (some ⟨t, [rowsA [[1]], lt (.slice none 0 0), rowsA [[2], [3]]]⟩)) : SnapC H (.osl o 0 3 1) (iRows3 kL) :=
  .osl o 0 3 1 _ _ (fun j => match j with | 0 => rowsA [[1]] | 1 => lt (.slice none 0 0) | _ => rowsA [[2], [3]]) (by decide) h (fun j hj => by
    rcases j with _ | _ | _ | j
    · rfl
    · rfl
    · rfl
    · omega) fun j hj => by
    rcases j with _ | _ | _ | j
    · exact .iv _
    · exact .nil _ _
    · exact .iv _
    · omega
theorem snapC_rw {H : AHeap} {o : Nat} {t : TypeId} {R : List (List Int)} (h : H[o]? = some (some ⟨t, R.map rowA⟩)) : SnapC H (.osl o 0 R.length 1) (iRows R) :=
  .osl o 0 R.length 1 _ _ (fun j => rowA (R.getD j [])) (by decide) h (fun j hj => by
    rw [Nat.zero_add]; show (R.map rowA)[j]? = _
    rw [List.getElem?_map, List.getElem?_eq_getElem (by omega)]; simp only [Option.map_some, List.getD_eq_getElem?_getD, List.getElem?_eq_getElem (show j < R.length by omega), Option.getD_some]) fun j _ => .iv _
theorem snapC_bl {H : AHeap} {o : Nat} {t : TypeId} {xs : List Bool} (ho : H[o]? = some (some ⟨t, xs.map fun b => lt (.bool b)⟩)) : SnapC H (.osl o 0 xs.length 1) (iBools xs) :=
  SnapC.lits (fun j => .bool (xs.getD j false)) ho fun j hj => by simp [List.getD, hj]
theorem k_same : PF Tryz.prog 11 [aForm 1 [[1], [1]], aForm 1 [[1], [1]]] fun r H' => r = lt (.bool true) ∧ H' = [] := pf_formSelf 1 [[1], [1]] (by decide) (sh_rowsK (by decide))
theorem k_rows : PF Tryz.prog 17 [.iv (iRows [[1], [2], [3]]), .iv (iRows [[1], [2], [3]])] fun r H' => r = lt (.bool true) ∧ H' = [] := pf_rowsSelf [[1], [2], [3]] (by decide) (sh_rowsK (by decide))
theorem k_q1 : (kP.toList == (⟨#[112, 108, 97, 99, 101, 32, 48, 32, 48]⟩ : ByteArray).toList) = true := beq_self_eq_true _
theorem k_q2 : (kI.toList == (⟨#[105, 110, 32, 48]⟩ : ByteArray).toList) = true := beq_self_eq_true _
theorem k_q3 : (kS1.toList == (⟨#[115, 116, 97, 116, 101, 32, 49, 32, 48]⟩ : ByteArray).toList) = true := beq_self_eq_true _
set_option maxRecDepth 100000 in
set_option maxHeartbeats 1000000 in
theorem pf_one : PF Tryz.prog 23 [] fun r H' => r = k1A ∧ H' = [] := by
  refine SF.frozen ?_
  (refine SF_of_bodyX (aload tt) (aload_ok tyOK) Tryz.func23 rfl (by kernel_rfl) ?_; simp only [Tryz.ntmps23, List.length_cons, List.length_nil, Nat.reduceAdd, Nat.reduceSub, List.replicate_succ, List.replicate_zero, List.cons_append, List.nil_append])
  repeat (first | (first | (with_reducible first | refine AX_block ?_ | refine AX_skip ?_ | refine AX_exit ?_ | refine AX_ret ?_ | refine AX_ift ?_ | refine AX_iff ?_ | refine AX_seq_k (fun K hK => ?_) | refine ContX.use (by assumption) ?_) | simp only [thenX, inBlockX, if_true, if_false, reduceCtorEq]) | ((first | (refine XRes_litF tyOK (by rfl) rfl (by decide) rfl rfl ?_) | (refine XRes_lit tyOK (iRows [[1], [1]]) rfl (x := .osl 3 0 2 1) (obj := ⟨57, [rowA [1], rowA [1]]⟩) (by rfl) (snapC_rw (t := 57) (R := [[1], [1]]) (only_mk (by simp) (by simp))) ?_) | (refine XRes_lit tyOK (iRows [[1]]) rfl (x := .osl 3 0 1 1) (obj := ⟨57, [rowA [1]]⟩) (by rfl) (snapC_rw (t := 57) (R := [[1]]) (only_mk (by simp) (by simp))) ?_) | (refine XRes_lit tyOK (iRows [[2], [3]]) rfl (x := .osl 3 0 2 1) (obj := ⟨57, [rowA [2], rowA [3]]⟩) (by rfl) (snapC_rw (t := 57) (R := [[2], [3]]) (only_mk (by simp) (by simp))) ?_) | (refine XRes_lit tyOK (iRows [[1], [2], [3]]) rfl (x := .osl 3 0 3 1) (obj := ⟨57, [rowA [1], rowA [2], rowA [3]]⟩) (by rfl) (snapC_rw (t := 57) (R := [[1], [2], [3]]) (only_mk (by simp) (by simp))) ?_) | (refine XRes_lit tyOK (iRows3 kL) rfl (x := .osl 3 0 3 1) (obj := ⟨29, [rowsA [[1]], lt (.slice none 0 0), rowsA [[2], [3]]]⟩) (by rfl) (snapC_kL (t := 29) (only_mk (by simp) (by simp))) ?_) | (refine XRes_lit tyOK (iBools [true, true, true, true]) rfl (x := .osl 3 0 4 1) (obj := ⟨4, [lt (.bool true), lt (.bool true), lt (.bool true), lt (.bool true)]⟩) (by rfl) (snapC_bl (t := 4) (xs := [true, true, true, true]) (only_mk (by simp) (by simp))) ?_) | (refine XRes_lit tyOK (iBools [true, false, true, true]) rfl (x := .osl 3 0 4 1) (obj := ⟨4, [lt (.bool true), lt (.bool false), lt (.bool true), lt (.bool true)]⟩) (by rfl) (snapC_bl (t := 4) (xs := [true, false, true, true]) (only_mk (by simp) (by simp))) ?_)); (simp only [List.map_cons, List.map_nil, intOf, putL, List.set_cons_succ, List.set_cons_zero])) | (first | ((with_reducible refine XOP tyOK ?_); simp (disch := omega) only [go_sem , k_q1, k_q2, k_q3, iFlat, iInts, iStrs, iRows, aForm, lint, kR_len, List.getD_cons_zero, List.getD_cons_succ, Int.reduceToNat, Int.toNat_zero, Int.toNat_one, Nat.zero_mul, Nat.one_mul, Nat.zero_add, Nat.reduceMul, Nat.reduceAdd, Nat.reduceSub]; (with_reducible refine XRes_id ?_)) | (with_reducible refine XSK ?_)) | ((with_reducible refine XRes_nil ?_); refine hK _ ?_; clear hK K) | ((with_reducible refine AX_reg0 fun K hK => ?_); simp only [go_sem]))
  (simp only [bodyX]; refine ⟨_, by simp only [aresults, aresult, XS.as, Tryz.results23, aload, go_sem, Option.bind_some]; rfl, ?_⟩)
  exact ⟨_, .same _ (ids_idB rfl), rfl, trivial⟩
set_option maxRecDepth 100000 in
set_option maxHeartbeats 4000000 in
theorem pf_awake : PF Tryz.prog 8 [] fun r H' => r = lt (.bool true) ∧ H' = [] := by
  refine SF.forgetAll ?_
  (refine SF_of_bodyX (aload tt) (aload_ok tyOK) Tryz.func8 rfl (by kernel_rfl) ?_; simp only [Tryz.ntmps8, List.length_cons, List.length_nil, Nat.reduceAdd, Nat.reduceSub, List.replicate_succ, List.replicate_zero, List.cons_append, List.nil_append])
  repeat (first | (first | (with_reducible first | refine AX_block ?_ | refine AX_skip ?_ | refine AX_exit ?_ | refine AX_ret ?_ | refine AX_ift ?_ | refine AX_iff ?_ | refine AX_seq_k (fun K hK => ?_) | refine ContX.use (by assumption) ?_) | simp only [thenX, inBlockX, if_true, if_false, reduceCtorEq]) | ((first | (refine XRes_litF tyOK (by rfl) rfl (by decide) rfl rfl ?_) | (refine XRes_lit tyOK (iRows [[1], [1]]) rfl (x := .osl 3 0 2 1) (obj := ⟨57, [rowA [1], rowA [1]]⟩) (by rfl) (snapC_rw (t := 57) (R := [[1], [1]]) (only_mk (by simp) (by simp))) ?_) | (refine XRes_lit tyOK (iRows [[1]]) rfl (x := .osl 3 0 1 1) (obj := ⟨57, [rowA [1]]⟩) (by rfl) (snapC_rw (t := 57) (R := [[1]]) (only_mk (by simp) (by simp))) ?_) | (refine XRes_lit tyOK (iRows [[2], [3]]) rfl (x := .osl 3 0 2 1) (obj := ⟨57, [rowA [2], rowA [3]]⟩) (by rfl) (snapC_rw (t := 57) (R := [[2], [3]]) (only_mk (by simp) (by simp))) ?_) | (refine XRes_lit tyOK (iRows [[1], [2], [3]]) rfl (x := .osl 3 0 3 1) (obj := ⟨57, [rowA [1], rowA [2], rowA [3]]⟩) (by rfl) (snapC_rw (t := 57) (R := [[1], [2], [3]]) (only_mk (by simp) (by simp))) ?_) | (refine XRes_lit tyOK (iRows3 kL) rfl (x := .osl 3 0 3 1) (obj := ⟨29, [rowsA [[1]], lt (.slice none 0 0), rowsA [[2], [3]]]⟩) (by rfl) (snapC_kL (t := 29) (only_mk (by simp) (by simp))) ?_) | (refine XRes_lit tyOK (iBools [true, true, true, true]) rfl (x := .osl 3 0 4 1) (obj := ⟨4, [lt (.bool true), lt (.bool true), lt (.bool true), lt (.bool true)]⟩) (by rfl) (snapC_bl (t := 4) (xs := [true, true, true, true]) (only_mk (by simp) (by simp))) ?_) | (refine XRes_lit tyOK (iBools [true, false, true, true]) rfl (x := .osl 3 0 4 1) (obj := ⟨4, [lt (.bool true), lt (.bool false), lt (.bool true), lt (.bool true)]⟩) (by rfl) (snapC_bl (t := 4) (xs := [true, false, true, true]) (only_mk (by simp) (by simp))) ?_)); (simp only [List.map_cons, List.map_nil, intOf, putL, List.set_cons_succ, List.set_cons_zero])) | (first | (first | refine XTL (by rfl) pf_one ?_ | refine XTL (by rfl) k_Enc0 ?_ | refine XTL (by rfl) k_Enc1 ?_ | refine XTL (by rfl) k_Enc2 ?_ | refine XTL (by rfl) k_Names ?_ | refine XTL (by rfl) k_Say1 ?_ | refine XTL (by rfl) k_Say2 ?_ | refine XTL (by rfl) k_Con ?_ | refine XTL (by rfl) k_same ?_ | refine XTL (by rfl) k_rows ?_)) | (first | ((with_reducible refine XOP tyOK ?_); simp (disch := omega) only [go_sem , k_q1, k_q2, k_q3, iFlat, iInts, iStrs, iRows, aForm, lint, kR_len, List.getD_cons_zero, List.getD_cons_succ, Int.reduceToNat, Int.toNat_zero, Int.toNat_one, Nat.zero_mul, Nat.one_mul, Nat.zero_add, Nat.reduceMul, Nat.reduceAdd, Nat.reduceSub]; (with_reducible refine XRes_id ?_)) | (with_reducible refine XSK ?_)) | ((with_reducible refine XRes_nil ?_); refine hK _ ?_; clear hK K) | ((with_reducible refine AX_reg0 fun K hK => ?_); simp only [go_sem]))
  (simp only [bodyX]; refine ⟨_, by simp only [aresults, aresult, XS.as, Tryz.results8, aload, go_sem, Option.bind_some]; rfl, ?_⟩)
  exact ⟨.iv _, rfl, trivial⟩
end Go.Proofs.YtcjnikkmjhagmaaGreatDoor
