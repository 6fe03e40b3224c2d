import Derived.Test.YthgmjboldboclaaDoorMgBN
import Derived.Test.YthgmjboldboclaaDoorMgBU
import Derived.Test.YthgmjboldboclaaDoorMgBT
import Derived.Test.YthgmjboldboclaaDoorMgBS
import Derived.Test.YthgmjboldboclaaDoorMgBV
import Derived.Test.YthgmjboldboclaaDoorMgBH
import Derived.Test.YthgmjboldboclaaDoorMgBP
import Derived.Test.YthgmjboldboclaaDoorMgBB
import Derived.Test.YthgmjboldboclaaDoorMgAS
import Derived.Test.YthgmjboldboclaaDoorMgAU
namespace Go.Proofs.YthgmjboldboclaaDoor
open Go.RowKit Go.Lib
set_option linter.unusedVariables false
set_option linter.unusedSimpArgs false
theorem pf_prs (l : List UInt8) (hl : l.length ≤ 1000000) : PF Tryd.prog 8 [lt (.string (ba l))] fun r H' => r = .tup [aForm (prs l).1 (prs l).2.1, lint (prs l).2.2.1, lint (prs l).2.2.2] ∧ H' = [] :=
  pf_Parse6 l (lns 1 0 l) hl (by have := (lns_sum l.length 1 0 l (Nat.le_refl _)).2.1; omega) (fun i => by have := lns_rowlen l i; omega) (pf_Lines l hl) (by have := toks_len l; unfold toks at this; omega) (fun j => by have := toks_txt l j; unfold toks at this; omega)
theorem pf_rprs (l : List UInt8) (hl : l.length ≤ 1000000) : PF Tryd.prog 9 [lt (.string (ba l))] fun r H' => r = .tup [aForm (prs l).1 (prs l).2.1, lint (prs l).2.2.1, lint (prs l).2.2.2] ∧ H' = [] :=
  pf_rParse6 l (toks l) hl (pf_rAllG l (lns 1 0 l) (by have := (lns_sum l.length 1 0 l (Nat.le_refl _)).2.1; omega) (fun i => by have := lns_rowlen l i; omega) (pf_rLines l hl)) (by have := toks_len l; omega) (fun j => by have := toks_txt l j; omega)
theorem fit_small {x : Int} (h : -1000000 ≤ x ∧ x ≤ 1000000) : Fit x := ⟨by omega, by omega⟩
theorem pf_chkOk (V : Int) (R : List (List Int)) (hl : R.length ≤ 1000000) (hs : ShortR R 100000) (h : fErr V R = 0) : PF Tryd.prog 16 [aForm V R] fun r H' => r = .tup [lint (fAt V R), lint 0] ∧ H' = [] := by
  have := pf_Check V R hl hs
  rwa [h] at this
theorem q6_P1 : PF Tryd.prog 8 [lt (.string (ba tx61))] fun r H' => r = .tup [aForm 2 [[1, -2], [2]], lt (.int .i64 27), lt (.int .i64 0)] ∧ H' = [] := by
  have h := pf_prs tx61 (by decide)
  rw [prs_61] at h; exact h
theorem q6_P2 : PF Tryd.prog 8 [lt (.string (ba tx62))] fun r H' => r = .tup [aForm 0 [], lt (.int .i64 12), lt (.int .i64 7)] ∧ H' = [] := by
  have h := pf_prs tx62 (by decide)
  rw [prs_62] at h; exact h
theorem q6_P3 : PF Tryd.prog 8 [lt (.string (ba tx63))] fun r H' => r = .tup [aForm 0 [], lt (.int .i64 12), lt (.int .i64 11)] ∧ H' = [] := by
  have h := pf_prs tx63 (by decide)
  rw [prs_63] at h; exact h
theorem short6 : ShortR [[1, -2], [2]] 100000 := fun c hc => by
  simp only [List.mem_cons, List.not_mem_nil, or_false] at hc
  rcases hc with rfl | rfl <;> decide
theorem q6_Pr : PF Tryd.prog 12 [aForm 2 [[1, -2], [2]]] fun r H' => r = .tup [lt (.string (ba [112, 32, 99, 110, 102, 32, 50, 32, 50, 10, 49, 32, 45, 50, 32, 48, 10, 50, 32, 48, 10])), lt (.int .i64 0)] ∧ H' = [] := by
  have hF : ∀ c ∈ ([[1, -2], [2]] : List (List Int)), ∀ x ∈ c, Fit x := fun c hc x hx => by
    simp only [List.mem_cons, List.not_mem_nil, or_false] at hc
    rcases hc with rfl | rfl
    · simp only [List.mem_cons, List.not_mem_nil, or_false] at hx
      rcases hx with rfl | rfl <;> exact fit_small (by decide)
    · simp only [List.mem_cons, List.not_mem_nil, or_false] at hx
      subst hx; exact fit_small (by decide)
  have h := pf_dPrint 2 [[1, -2], [2]] _ (fit_small (by decide)) hF (by decide) (fun c hc => Nat.le_trans (short6 c hc) (by decide)) (by rw [prB_6]; decide) (pf_chkOk 2 [[1, -2], [2]] (by decide) short6 (by decide +kernel))
  rw [prB_6] at h; exact h
theorem q6_H : PF Tryd.prog 14 [lt (.int .i64 1), lt (.int .i64 0)] fun r H' => r = lt (.string (ba [112, 32, 99, 110, 102, 32, 49, 32, 48, 10])) ∧ H' = [] := by
  have h := pf_Head6 1 0 (fit_small (by decide)) (fit_small (by decide))
  rw [headB_6] at h; exact h
theorem q6_S : PF Tryd.prog 10 [aForm 2 [[1, -2], [2]], aForm 2 [[1, -2], [2]]] fun r H' => r = lt (.bool true) ∧ H' = [] :=
  pf_formSelf6 2 [[1, -2], [2]] (by decide) (fun k => by
    match k with
    | 0 => decide
    | 1 => decide
    | k + 2 => exact Nat.zero_le _)
set_option maxRecDepth 100000 in
set_option maxHeartbeats 4000000 in
theorem pf_awake06 : PF Tryd.prog 7 [] fun r H' => r = lt (.bool true) ∧ H' = [] := by
  refine SF.forgetAll ?_
  have hs3 := trivial; have hs4 := trivial
  have hS := q6_S
  have hP1 := q6_P1
  have hP2 := q6_P2
  have hP3 := q6_P3
  have hPr := q6_Pr
  unfold aForm iRows lint at hP1 hP2 hP3 hPr
  have hs1 : (⟨#[112, 32, 99, 110, 102, 32, 50, 32, 50, 10, 49, 32, 45, 50, 32, 48, 10, 50, 32, 48, 10]⟩ : ByteArray).toList = [112, 32, 99, 110, 102, 32, 50, 32, 50, 10, 49, 32, 45, 50, 32, 48, 10, 50, 32, 48, 10] := ba_toList [112, 32, 99, 110, 102, 32, 50, 32, 50, 10, 49, 32, 45, 50, 32, 48, 10, 50, 32, 48, 10]
  have hs2 : (⟨#[112, 32, 99, 110, 102, 32, 49, 32, 48, 10]⟩ : ByteArray).toList = [112, 32, 99, 110, 102, 32, 49, 32, 48, 10] := ba_toList [112, 32, 99, 110, 102, 32, 49, 32, 48, 10]
  (refine SF_of_bodyX (aload tt) (aload_ok tyOK) Tryd.func7 rfl (by kernel_rfl) ?_; simp only [Tryd.ntmps7, List.length_cons, List.length_nil, Nat.reduceAdd, Nat.reduceSub, List.replicate_succ, List.replicate_zero, List.cons_append, List.nil_append])
  repeat (first | (first | (with_reducible first | refine AX_block ?_ | refine AX_skip ?_ | refine AX_exit ?_ | refine AX_ret ?_ | refine AX_ift ?_ | refine AX_iff ?_ | refine AX_seq_k (fun K hK => ?_) | refine ContX.use (by assumption) ?_) | simp only [thenX, inBlockX, if_true, if_false, reduceCtorEq]) | ((first | (refine XRes_litF tyOK (by rfl) rfl (by decide) rfl rfl ?_) | (refine ADF_litF tyOK (by rfl) rfl (by decide) rfl rfl ?_) | (refine XRes_litRw tyOK [[1, -2], [2]] (by rfl) rfl ?_)); (simp only [List.map_cons, List.map_nil, intOf, putL, List.set_cons_succ, List.set_cons_zero])) | (first | ((first | (with_reducible refine XRes_op tyOK ?_ ?_) | ((with_reducible first | refine ADF_op tyOK ?_ ?_ ?_ | refine ADX_op tyOK ?_ ?_ ?_); (focus rfl)) | (with_reducible refine ADR_alloc1 tyOK ?_ ?_) | ((with_reducible refine ADR_free1 tyOK ?_ ?_ ?_); (focus rfl)) | ((with_reducible refine ADR_free0 tyOK ?_ ?_ ?_); (focus rfl)) | ((with_reducible refine ADR_read1 tyOK ?_ ?_ ?_); (focus rfl)) | (with_reducible refine ADR_chg1 tyOK ?_ ?_)); (focus (first | (with_reducible rfl) | ((simp (disch := omega) only [go_sem]); done))); simp (disch := omega) only [go_sem , hs1, hs2, hs3, hs4, Int.toNat_zero, Int.toNat_one, List.length_nil, iRows, ba_toList, beq_self_eq_true]; (first | (with_reducible refine XRes_id ?_) | (with_reducible refine ADF_id ?_) | (with_reducible refine ADR_id1 ?_) | (with_reducible refine ADX_id ?_))) | ((first | (with_reducible refine XRes_skip ?_ ?_) | (with_reducible refine ADF_skip (b := true) ?_ ?_) | (with_reducible refine ADX_skip ?_ ?_) | ((with_reducible refine ADR_skip1 ?_ ?_ ?_); (focus rfl))); (focus (first | rfl | ((simp (disch := omega) only [go_sem]); done))); (simp only [putL, List.set_cons_succ, List.set_cons_zero]))) | ((first | (with_reducible refine XRes_nil ?_) | (with_reducible refine ADF_nil ?_) | (with_reducible refine ADR_nil ?_) | (with_reducible refine ADX_nil ?_)); (first | refine hK _ ?_ | refine hK _ _ ?_); clear hK K) | ((first | (with_reducible refine AX_reg0 fun K hK => ?_) | (refine AX_drawG1 tyOK (by kernel_rfl) (by rfl) (by kernel_rfl) fun K hK => ?_) | (refine AX_drawT tyOK (by kernel_rfl) (by decide +kernel) fun K hK => ?_) | (refine AX_drawM1 (by kernel_rfl) (by rfl) (by decide +kernel) fun K hK => ?_) | (refine AX_drawA tyOK (by kernel_rfl) (by decide +kernel) fun K hK => ?_)); (first | simp only [go_sem, preN, effOp, runF, alM, mapOp, alD2, kdOf2, Bool.not_false, Bool.not_true, reduceCtorEq] | simp only [go_sem, preN, effOp, runF, alM, mapOp, Bool.not_false, Bool.not_true, reduceCtorEq] | simp only [go_sem, preN, effOp, runF, alD2, kdOf2, Bool.not_false, Bool.not_true, reduceCtorEq] | simp only [go_sem, alD2, kdOf2, Bool.not_false, Bool.not_true, reduceCtorEq] | simp only [go_sem, preN, effOp, runF, Bool.not_false, Bool.not_true, reduceCtorEq] | simp only [go_sem])) | (first | (first | refine XTL (by rfl) hP1 ?_ | refine ATL tyOK (by rfl) hP1 ?_ | refine XTL (by rfl) hP2 ?_ | refine ATL tyOK (by rfl) hP2 ?_ | refine XTL (by rfl) hP3 ?_ | refine ATL tyOK (by rfl) hP3 ?_ | refine XTL (by rfl) hPr ?_ | refine ATL tyOK (by rfl) hPr ?_ | refine XTL (by rfl) q6_H ?_ | refine ATL tyOK (by rfl) q6_H ?_ | refine XTL (by rfl) hS ?_ | refine ATL tyOK (by rfl) hS ?_)))
  (simp only [bodyX]; refine ⟨_, by simp only [aresults, aresult, XS.as, Tryd.results7, aload, go_sem, Option.bind_some]; rfl, ?_⟩)
  exact ⟨ids_idB rfl, rfl, trivial⟩
end Go.Proofs.YthgmjboldboclaaDoor
namespace Go.Proofs.YthgmjboldboclaaDoor
open Go.RowKit Go.Lib
set_option linter.unusedSimpArgs false
structure GoodC (V : Int) (c : List Int) : Prop where
  len : c.length ≤ 1000
  lits : ∀ x ∈ c, x ≠ 0 ∧ -V ≤ x ∧ x ≤ V
  nodup : c.Nodup
  one : ∀ x ∈ c, -x ∉ c
theorem GoodC.nil (V : Int) : GoodC V [] := ⟨by simp, by simp, List.nodup_nil, by simp⟩
theorem numR_bd2 {l : List UInt8} {V : Int} (hV : 0 ≤ V) : -V ≤ (numR l (-V) V).1 ∧ (numR l (-V) V).1 ≤ V := by
  unfold numR
  split
  · exact ⟨by show -V ≤ 0; omega, hV⟩
  · split
    · rename_i h; exact ⟨h.2.2.1, h.2.2.2⟩
    · exact ⟨by show -V ≤ 0; omega, hV⟩
theorem litE_zero {V : Int} {c : List Int} {l : List UInt8} (h : litE V c l = 0) (h2 : (numR l (-V) V).1 ≠ 0) : c.length ≠ 1000 ∧ (numR l (-V) V).1 ∉ c ∧ -(numR l (-V) V).1 ∉ c := by
  unfold litE at h
  by_cases h1 : (numR l (-V) V).2 ≠ 0
  · rw [if_pos h1] at h; exact absurd h h1
  · rw [if_neg h1, if_neg h2] at h
    by_cases h3 : c.length = 1000
    · rw [if_pos h3] at h; cases h
    · rw [if_neg h3] at h
      by_cases h4 : (numR l (-V) V).1 ∈ c
      · rw [if_pos h4] at h; cases h
      · rw [if_neg h4] at h
        by_cases h5 : -(numR l (-V) V).1 ∈ c
        · rw [if_pos h5] at h; cases h
        · exact ⟨h3, h4, h5⟩
theorem GoodC.snoc {V : Int} {c : List Int} {l : List UInt8} (hV : 0 ≤ V) (hc : GoodC V c) (h : litE V c l = 0) (h2 : (numR l (-V) V).1 ≠ 0) : GoodC V (c ++ [(numR l (-V) V).1]) := by
  obtain ⟨h3, h4, h5⟩ := litE_zero h h2
  have hb := numR_bd2 (l := l) hV
  generalize (numR l (-V) V).1 = x at *
  have hl := hc.len
  refine ⟨by rw [List.length_append, List.length_singleton]; omega, fun y hy => ?_, ?_, fun y hy hy2 => ?_⟩
  · rcases List.mem_append.1 hy with hy | hy
    · exact hc.lits y hy
    · rw [List.mem_singleton] at hy; subst hy; exact ⟨h2, hb⟩
  · rw [List.nodup_append]
    exact ⟨hc.nodup, by simp, fun a ha b hb e => by simp at hb; subst hb; subst e; exact h4 ha⟩
  · rcases List.mem_append.1 hy with ha | ha <;> rcases List.mem_append.1 hy2 with hb | hb
    · exact hc.one y ha hb
    · rw [List.mem_singleton] at hb
      have : -x = y := by omega
      rw [this] at h5; exact h5 ha
    · rw [List.mem_singleton] at ha; rw [ha] at hb; exact h5 hb
    · rw [List.mem_singleton] at ha hb; omega
def tot (R : List (List Int)) : Nat := (R.map List.length).sum
theorem tot_snoc (R : List (List Int)) (c : List Int) : tot (R ++ [c]) = tot R + c.length := by unfold tot; simp
theorem pRun_good {V N z : Int} (hV : 0 ≤ V) : ∀ (ts : List Tok3) (xss : List (List Int)) (c : List Int), (∀ d ∈ xss, GoodC V d) → GoodC V c →
    (∀ d ∈ (pRun V N z ts xss c).1, GoodC V d) ∧ (pRun V N z ts xss c).1.length ≤ xss.length + ts.length ∧ tot (pRun V N z ts xss c).1 + 0 ≤ tot xss + c.length + ts.length
  | [], xss, c, hx, hc => by
    rw [pRun]
    split
    · exact ⟨by simp, by simp, by simp [tot]⟩
    · exact ⟨hx, by simp, by simp⟩
  | t :: ts, xss, c, hx, hc => by
    rw [pRun_cons]
    split
    · exact ⟨by simp, by simp, by simp [tot]⟩
    · split
      · exact ⟨by simp, by simp, by simp [tot]⟩
      · rename_i h1
        have h1 := Classical.not_not.1 h1
        split
        · obtain ⟨i1, i2, i3⟩ := pRun_good (N := N) (z := z) hV ts (xss ++ [c]) [] (fun d hd => by
            rcases List.mem_append.1 hd with hd | hd
            · exact hx d hd
            · rw [List.mem_singleton] at hd; subst hd; exact hc) (GoodC.nil V)
          rw [tot_snoc] at i3
          rw [List.length_append] at i2
          refine ⟨i1, ?_, ?_⟩
          · simp at i2 ⊢; omega
          · simp at i3 ⊢; omega
        · rename_i h2
          obtain ⟨i1, i2, i3⟩ := pRun_good (N := N) (z := z) hV ts xss _ hx (hc.snoc hV h1 h2)
          refine ⟨i1, ?_, ?_⟩
          · simp at i2 ⊢; omega
          · simp at i3 ⊢; omega
theorem numR_inX {l : List UInt8} {lo hi : Int} (h0 : lo ≤ 0) (h1 : 0 ≤ hi) : lo ≤ (numR l lo hi).1 ∧ (numR l lo hi).1 ≤ hi := by
  unfold numR
  split
  · exact ⟨h0, h1⟩
  · split
    · rename_i h; exact ⟨h.2.2.1, h.2.2.2⟩
    · exact ⟨h0, h1⟩
structure PrsOK (l : List UInt8) : Prop where
  vars : 0 ≤ (prs l).1 ∧ (prs l).1 ≤ 100000
  good : ∀ d ∈ (prs l).2.1, GoodC (prs l).1 d
  len : (prs l).2.1.length ≤ l.length
  tot : tot (prs l).2.1 ≤ l.length
  bad : (prs l).2.2.2 ≠ 0 → (prs l).1 = 0 ∧ (prs l).2.1 = []
theorem prs_ok (l : List UInt8) : PrsOK l := by
  have hT := toks_len l
  have hh : prs l = pParse (toks l) l.length := rfl
  by_cases h : hdI (toks l) < 4
  · rw [pParse_bad h] at hh
    exact ⟨by rw [hh]; exact (show 0 ≤ (0 : Int) ∧ (0 : Int) ≤ 100000 by decide), by rw [hh]; simp, by rw [hh]; simp, by rw [hh]; simp [Go.Proofs.YthgmjboldboclaaDoor.tot], fun _ => by rw [hh]; exact ⟨rfl, rfl⟩⟩
  · have h4 : hdI (toks l) = 4 := by
      have : hdI (toks l) ≤ 4 := by unfold hdI; split; omega; split; omega; split; omega; split <;> omega
      omega
    rw [pParse_run h4] at hh
    have hV : 0 ≤ hdV (toks l) ∧ hdV (toks l) ≤ 100000 := numR_inX (by decide) (by decide)
    obtain ⟨i1, i2, i3⟩ := pRun_good (N := hdN (toks l)) (z := (l.length : Int)) hV.1 ((toks l).drop 4) [] [] (by simp) (GoodC.nil _)
    rw [List.length_drop] at i2 i3
    by_cases he : (pRun (hdV (toks l)) (hdN (toks l)) l.length ((toks l).drop 4) [] []).2.2 ≠ 0
    · rw [if_pos he] at hh
      exact ⟨by rw [hh]; exact (show 0 ≤ (0 : Int) ∧ (0 : Int) ≤ 100000 by decide), by rw [hh]; simp, by rw [hh]; simp, by rw [hh]; simp [Go.Proofs.YthgmjboldboclaaDoor.tot], fun _ => by rw [hh]; exact ⟨rfl, rfl⟩⟩
    · rw [if_neg he] at hh
      refine ⟨by rw [hh]; exact hV, by rw [hh]; exact i1, by rw [hh]; simp at i2; dsimp only; omega, by rw [hh]; simp [Go.Proofs.YthgmjboldboclaaDoor.tot] at i3 ⊢; omega, fun h5 => ?_⟩
      rw [hh] at h5
      exact absurd h5 he
theorem lcheck_good {V x : Int} (hV : 0 ≤ V ∧ V ≤ 100000) (h : x ≠ 0 ∧ -V ≤ x ∧ x ≤ V) : lcheck x V = 0 := by
  have hl : lvar x = if 0 < x then x else -x := by
    unfold lvar
    split
    · rw [if_pos (by omega)]
    · split
      · rw [if_neg (by omega)]
      · omega
  unfold lcheck
  rw [if_neg (by omega), hl]
  split <;> (rw [if_neg (by omega)])
theorem fErr_good {V : Int} {R : List (List Int)} (hV : 0 ≤ V ∧ V ≤ 100000) (hR : R.length ≤ 1000000) (h : ∀ d ∈ R, GoodC V d) : fErr V R = 0 := by
  unfold fErr
  rw [if_neg (by omega), if_neg (by omega), if_pos]
  unfold fBad fFind
  rw [if_neg]
  rw [List.any_eq_true]
  rintro ⟨c, hc, h1⟩
  have hg := h c hc
  have h2 : cCheck c V = 0 := by
    unfold cCheck
    have := hg.len
    rw [if_neg (by omega), if_neg (by omega), if_neg, if_pos hg.nodup]
    rw [Bool.not_eq_false, List.all_eq_true]
    intro x hx
    rw [lcheck_good hV (hg.lits x hx)]; rfl
  have h3 : cTaut c = false := by
    cases e : cTaut c with
    | false => rfl
    | true =>
      obtain ⟨x, _, h4, h5⟩ := (taut_iff c).1 e
      exact absurd h5 (hg.one x h4)
  unfold fChk at h1
  rw [if_neg (by rw [h2]; simp), if_neg (by rw [h3]; simp)] at h1
  simp at h1
theorem good_of {V : Int} {R : List (List Int)} (h : fErr V R = 0) : (0 ≤ V ∧ V ≤ 100000) ∧ R.length ≤ 1000000 ∧ ∀ d ∈ R, GoodC V d := by
  obtain ⟨h1, h2, h3, h4⟩ := fErr_ok h
  refine ⟨⟨h1, h2⟩, h3, fun d hd => ?_⟩
  obtain ⟨h5, h6⟩ := h4 d hd
  unfold cCheck at h5
  rw [if_neg (by omega)] at h5
  split at h5
  · cases h5
  · split at h5
    · cases h5
    · rename_i h7 h8
      split at h5
      · rename_i h9
        rw [Bool.not_eq_false, List.all_eq_true] at h8
        have hl : ∀ x ∈ d, lvar x ≠ 0 ∧ x ≠ 0 ∧ -V ≤ x ∧ x ≤ V := fun x hx => by
          have := h8 x hx
          have h10 : lcheck x V = 0 := by simpa using this
          unfold lcheck at h10
          rw [if_neg (by omega)] at h10
          split at h10
          · cases h10
          · rename_i h11
            obtain ⟨h12, h13⟩ := not_or.1 h11
            refine ⟨h12, ?_⟩
            unfold lvar at h12 h13
            split at h13
            · omega
            · split at h13
              · omega
              · rename_i h14 h15; rw [if_neg h14, if_neg h15] at h12; exact absurd rfl h12
        exact ⟨by omega, fun x hx => (hl x hx).2, h9, fun x hx hx2 => by
          have := (taut_iff d).2 ⟨x, (hl x hx).1, hx, hx2⟩
          rw [h6] at this; cases this⟩
      · cases h5
end Go.Proofs.YthgmjboldboclaaDoor
namespace Go.Proofs.YthgmjboldboclaaDoor
open Go.RowKit Go.Lib
set_option linter.unusedVariables false
set_option linter.unusedSimpArgs false
theorem row_le {R : List (List Int)} {n : Nat} (h : ∀ d ∈ R, d.length ≤ n) (k : Nat) : (R.getD k []).length ≤ n := by
  by_cases hk : k < R.length
  · rw [List.getD_eq_getElem?_getD, List.getElem?_eq_getElem hk]; exact h _ (List.getElem_mem hk)
  · rw [List.getD_eq_getElem?_getD, List.getElem?_eq_none (by omega)]; exact Nat.zero_le _
theorem W098ea {A B : Prop} (h9 : B) (w : B → A := by (intro h9; (repeat intro K hK); refine ⟨?_⟩; (repeat (first | (first | (with_reducible first | refine AX_block ?_ | refine AX_skip ?_ | refine AX_exit ?_ | refine AX_ret ?_ | refine AX_ift ?_ | refine AX_iff ?_ | refine AX_seq_k (fun K hK => ?_) | refine ContX.use (by assumption) ?_) | simp only [thenX, inBlockX, if_true, if_false, reduceCtorEq]) | (first | ((first | (with_reducible refine XRes_op tyOK ?_ ?_) | ((with_reducible first | refine ADF_op tyOK ?_ ?_ ?_ | refine ADX_op tyOK ?_ ?_ ?_); (focus rfl)) | (with_reducible refine ADR_alloc1 tyOK ?_ ?_) | ((with_reducible refine ADR_free1 tyOK ?_ ?_ ?_); (focus rfl)) | ((with_reducible refine ADR_free0 tyOK ?_ ?_ ?_); (focus rfl)) | ((with_reducible refine ADR_read1 tyOK ?_ ?_ ?_); (focus rfl)) | (with_reducible refine ADR_chg1 tyOK ?_ ?_)); (focus (first | (with_reducible rfl) | ((simp (disch := omega) only [go_sem]); done))); simp (disch := omega) only [go_sem , hs1, hs2, hs3, hs4, Int.toNat_zero, Int.toNat_one, List.length_nil, ba_toList, beq_self_eq_true, ba_size]; (first | (with_reducible refine XRes_id ?_) | (with_reducible refine ADF_id ?_) | (with_reducible refine ADR_id1 ?_) | (with_reducible refine ADX_id ?_))) | ((first | (with_reducible refine XRes_skip ?_ ?_) | (with_reducible refine ADF_skip (b := true) ?_ ?_) | (with_reducible refine ADX_skip ?_ ?_) | ((with_reducible refine ADR_skip1 ?_ ?_ ?_); (focus rfl))); (focus (first | rfl | ((simp (disch := omega) only [go_sem]); done))); (simp only [putL, List.set_cons_succ, List.set_cons_zero]))) | ((first | (with_reducible refine XRes_nil ?_) | (with_reducible refine ADF_nil ?_) | (with_reducible refine ADR_nil ?_) | (with_reducible refine ADX_nil ?_)); (first | refine hK _ ?_ | refine hK _ _ ?_); clear hK K) | ((first | (with_reducible refine AX_reg0 fun K hK => ?_) | (refine AX_drawG1 tyOK (by kernel_rfl) (by rfl) (by kernel_rfl) fun K hK => ?_) | (refine AX_drawT tyOK (by kernel_rfl) (by decide +kernel) fun K hK => ?_) | (refine AX_drawM1 (by kernel_rfl) (by rfl) (by decide +kernel) fun K hK => ?_) | (refine AX_drawA tyOK (by kernel_rfl) (by decide +kernel) fun K hK => ?_)); (first | simp only [go_sem, preN, effOp, runF, alM, mapOp, alD2, kdOf2, Bool.not_false, Bool.not_true, reduceCtorEq] | simp only [go_sem, preN, effOp, runF, alM, mapOp, Bool.not_false, Bool.not_true, reduceCtorEq] | simp only [go_sem, preN, effOp, runF, alD2, kdOf2, Bool.not_false, Bool.not_true, reduceCtorEq] | simp only [go_sem, alD2, kdOf2, Bool.not_false, Bool.not_true, reduceCtorEq] | simp only [go_sem, preN, effOp, runF, Bool.not_false, Bool.not_true, reduceCtorEq] | simp only [go_sem])) | (first | (first | refine XTL (by rfl) pf_awake06 ?_ | refine ATL tyOK (by rfl) pf_awake06 ?_ | refine XTL (by rfl) hP1 ?_ | refine ATL tyOK (by rfl) hP1 ?_ | refine XTL (by rfl) hP2 ?_ | refine ATL tyOK (by rfl) hP2 ?_ | refine XTL (by rfl) hH1 ?_ | refine ATL tyOK (by rfl) hH1 ?_ | refine XTL (by rfl) hH2 ?_ | refine ATL tyOK (by rfl) hH2 ?_ | refine XTL (by rfl) hS ?_ | refine ATL tyOK (by rfl) hS ?_ | refine XTL (by rfl) hF ?_ | refine ATL tyOK (by rfl) hF ?_)))); refine Wk.o ?_; (repeat revert hK K); exact h9)) : A := w h9
set_option maxRecDepth 100000 in
set_option maxHeartbeats 4000000 in
theorem pf_DimacsReads (s : ByteArray) : PF Tryd.prog 3 [lt (.string s)] fun r H' => r = lt (.bool true) ∧ H' = [] := by
  refine SF.forgetAll ?_
  have hs1 := trivial; have hs2 := trivial; have hs3 := trivial; have hs4 := trivial; have hP1 := trivial; have hP2 := trivial; have hS := trivial; have hF := trivial; have hH1 := trivial; have hH2 := trivial
  obtain ⟨l, rfl⟩ : ∃ l, s = ba l := ⟨s.data.toList, (ba_of s).symm⟩
  by_cases hl : 3000 < l.length
  · have hs1 : decide ((3000 : Int) < (l.length : Int)) = true := decide_eq_true (by omega)
    (refine SF_of_bodyX (aload tt) (aload_ok tyOK) Tryd.func3 rfl (by kernel_rfl) ?_; simp only [Tryd.ntmps3, List.length_cons, List.length_nil, Nat.reduceAdd, Nat.reduceSub, List.replicate_succ, List.replicate_zero, List.cons_append, List.nil_append])
    (refine Wk.o ?_; (repeat revert hK K); refine W098ea ?_; (repeat intro K hK); refine ⟨?_⟩)
    (simp only [bodyX]; refine ⟨_, by simp only [aresults, aresult, XS.as, Tryd.results3, aload, go_sem, Option.bind_some]; rfl, ?_⟩)
    exact ⟨ids_idB rfl, rfl, trivial⟩
  · have hs1 : decide ((3000 : Int) < (l.length : Int)) = false := decide_eq_false (by omega)
    have hP1 := pf_prs l (by omega)
    have hP2 := pf_rprs l (by omega)
    have hok := prs_ok l
    have hS := pf_formSelf6 (prs l).1 (prs l).2.1 (by have := hok.len; omega) (fun k => Nat.le_trans (row_le (fun d hd => (hok.good d hd).len) k) (by decide))
    clear hok
    generalize prs l = P at *
    obtain ⟨V, R, at0, e⟩ := P
    unfold aForm iRows lint at hP1 hP2 hS
    dsimp only at hP1 hP2 hS
    (refine SF_of_bodyX (aload tt) (aload_ok tyOK) Tryd.func3 rfl (by kernel_rfl) ?_; simp only [Tryd.ntmps3, List.length_cons, List.length_nil, Nat.reduceAdd, Nat.reduceSub, List.replicate_succ, List.replicate_zero, List.cons_append, List.nil_append])
    (refine Wk.o ?_; (repeat revert hK K); refine W098ea ?_; (repeat intro K hK); refine ⟨?_⟩)
    (simp only [bodyX]; refine ⟨_, by simp only [aresults, aresult, XS.as, Tryd.results3, aload, go_sem, Option.bind_some]; rfl, ?_⟩)
    exact ⟨ids_idB rfl, rfl, trivial⟩
set_option maxRecDepth 100000 in
set_option maxHeartbeats 4000000 in
theorem pf_DimacsPrints (V : Int) (R : List (List Int)) (v c : Int) (hV : Fit V) (hv : Fit v) (hc : Fit c) (hRl : R.length ≤ maxLen) (hRs : ∀ d ∈ R, d.length ≤ maxLen) (hF0 : ∀ d ∈ R, ∀ x ∈ d, Fit x) : PF Tryd.prog 4 [aForm V R, lt (.int .i64 v), lt (.int .i64 c)] fun r H' => r = lt (.bool true) ∧ H' = [] := by
  refine SF.forgetAll ?_
  have hs1 := trivial; have hs2 := trivial; have hs3 := trivial; have hs4 := trivial; have hP1 := trivial; have hP2 := trivial; have hS := trivial; have hF := trivial; have hH1 := trivial; have hH2 := trivial
  have hF := pf_Few V R hRl hRs
  cases hw : fFew R with
  | false =>
    rw [hw] at hF
    unfold aForm iRows lint at *
    (refine SF_of_bodyX (aload tt) (aload_ok tyOK) Tryd.func4 rfl (by kernel_rfl) ?_; simp only [Tryd.ntmps4, List.length_cons, List.length_nil, Nat.reduceAdd, Nat.reduceSub, List.replicate_succ, List.replicate_zero, List.cons_append, List.nil_append])
    (refine Wk.o ?_; (repeat revert hK K); refine W098ea ?_; (repeat intro K hK); refine ⟨?_⟩)
    (simp only [bodyX]; refine ⟨_, by simp only [aresults, aresult, XS.as, Tryd.results4, aload, go_sem, Option.bind_some]; rfl, ?_⟩)
    exact ⟨ids_idB rfl, rfl, trivial⟩
  | true =>
    rw [hw] at hF
    unfold fFew at hw
    rw [Bool.and_eq_true, decide_eq_true_iff, List.all_eq_true] at hw
    obtain ⟨h1, h2⟩ := hw
    have h2 : ∀ d ∈ R, d.length ≤ 50 := fun d hd => by simpa using h2 d hd
    have hsh : ShortR R 100000 := fun d hd => Nat.le_trans (h2 d hd) (by decide)
    have hH1 := pf_Head6 v c hv hc
    have hH2 := pf_rHead6 v c hv hc
    have hk1 := pf_Check V R (by omega) hsh
    have hk2 := pf_r04Check V R (by omega) hsh
    by_cases he : fErr V R = 0
    · rw [he] at hk1 hk2
      have hlen := prB_len hV hF0 h1 h2
      have hP1 := pf_dPrint V R _ hV hF0 (by omega) (fun d hd => Nat.le_trans (h2 d hd) (by decide)) hlen hk1
      have hP2 := pf_rPrint V R _ hV hF0 (by omega) (fun d hd => Nat.le_trans (h2 d hd) (by decide)) hlen hk2
      generalize prB V R = pr at *
      clear hk1 hk2
      unfold aForm iRows lint at *
      (refine SF_of_bodyX (aload tt) (aload_ok tyOK) Tryd.func4 rfl (by kernel_rfl) ?_; simp only [Tryd.ntmps4, List.length_cons, List.length_nil, Nat.reduceAdd, Nat.reduceSub, List.replicate_succ, List.replicate_zero, List.cons_append, List.nil_append])
      (refine Wk.o ?_; (repeat revert hK K); refine W098ea ?_; (repeat intro K hK); refine ⟨?_⟩)
      (simp only [bodyX]; refine ⟨_, by simp only [aresults, aresult, XS.as, Tryd.results4, aload, go_sem, Option.bind_some]; rfl, ?_⟩)
      exact ⟨ids_idB rfl, rfl, trivial⟩
    · have hP1 := pf_dPrintNo V R _ _ he hk1
      have hP2 := pf_rPrintNo V R _ _ he hk2
      generalize fErr V R = e at *
      clear hk1 hk2
      unfold aForm iRows lint at *
      (refine SF_of_bodyX (aload tt) (aload_ok tyOK) Tryd.func4 rfl (by kernel_rfl) ?_; simp only [Tryd.ntmps4, List.length_cons, List.length_nil, Nat.reduceAdd, Nat.reduceSub, List.replicate_succ, List.replicate_zero, List.cons_append, List.nil_append])
      (refine Wk.o ?_; (repeat revert hK K); refine W098ea ?_; (repeat intro K hK); refine ⟨?_⟩)
      (simp only [bodyX]; refine ⟨_, by simp only [aresults, aresult, XS.as, Tryd.results4, aload, go_sem, Option.bind_some]; rfl, ?_⟩)
      exact ⟨ids_idB rfl, rfl, trivial⟩
end Go.Proofs.YthgmjboldboclaaDoor
