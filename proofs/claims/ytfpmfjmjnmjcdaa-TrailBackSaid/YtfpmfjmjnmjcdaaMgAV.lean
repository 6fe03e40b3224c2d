import Derived.Test.YtfpmfjmjnmjcdaaMgAU
import Derived.Test.YtfpmfjmjnmjcdaaMgAR
namespace Go.Proofs.Ytfpmfjmjnmjcdaa
open Go.RowKit
set_option linter.unusedVariables false
set_option linter.unusedSimpArgs false
theorem rPl_bd (E : List Int) (m : Nat) (v : Int) : -1 ≤ rPl E m v ∧ rPl E m v < m := by
  unfold rPl
  rcases tplF_or (fun i => lvar (E.getD (i * 3) 0)) v m 0 with ⟨h, _⟩ | ⟨j, _, h1, _, h2, _⟩ <;> omega
def tvF (f : Nat → Int) (x : Int) : Nat → Nat → Int
  | _, 0 => 0
  | i, k + 1 => if f i = x then 1 else if f i = -x then -1 else tvF f x (i + 1) k
def rVl (E : List Int) (m : Nat) (x : Int) : Int := tvF (fun i => E.getD (i * 3) 0) x 0 m
def rOf (E : List Int) (m : Nat) (v : Int) (j : Nat) : Int := if rPl E m v < 0 then -1 else E.getD ((rPl E m v).toNat * 3 + j) 0
def rMay (n : Int) (E : List Int) (m : Nat) (x : Int) : Int := if lcheck x n ≠ 0 then 10 else if 0 ≤ rPl E m (lvar x) then 21 else 0
theorem W3a1ca {A B : Prop} (h9 : B) (w : B → A := by (intro h9; (repeat intro K hK); refine ⟨?_⟩; (repeat (first | (first | (with_reducible first | refine AX_block ?_ | refine AX_skip ?_ | refine AX_exit ?_ | refine AX_ret ?_ | refine AX_ift ?_ | refine AX_iff ?_ | refine AX_seq_k (fun K hK => ?_) | refine ContX.use (by assumption) ?_) | simp only [thenX, inBlockX, if_true, if_false, reduceCtorEq]) | (first | ((first | (with_reducible refine XRes_op tyOK ?_ ?_) | ((with_reducible first | refine ADF_op tyOK ?_ ?_ ?_ | refine ADX_op tyOK ?_ ?_ ?_); (focus rfl)) | (with_reducible refine ADR_alloc1 tyOK ?_ ?_) | ((with_reducible refine ADR_free1 tyOK ?_ ?_ ?_); (focus rfl)) | ((with_reducible refine ADR_free0 tyOK ?_ ?_ ?_); (focus rfl)) | ((with_reducible refine ADR_read1 tyOK ?_ ?_ ?_); (focus rfl)) | (with_reducible refine ADR_chg1 tyOK ?_ ?_)); (focus (first | (with_reducible rfl) | ((simp (disch := omega) only [go_sem]); done))); simp (disch := omega) only [go_sem , iFlat, hs1, hs2, hs3, hs4, hs5, hs6, hs7, hs8, Int.toNat_zero, Int.toNat_one, List.length_nil]; (first | (with_reducible refine XRes_id ?_) | (with_reducible refine ADF_id ?_) | (with_reducible refine ADR_id1 ?_) | (with_reducible refine ADX_id ?_))) | ((first | (with_reducible refine XRes_skip ?_ ?_) | (with_reducible refine ADF_skip (b := true) ?_ ?_) | (with_reducible refine ADX_skip ?_ ?_) | ((with_reducible refine ADR_skip1 ?_ ?_ ?_); (focus rfl))); (focus (first | rfl | ((simp (disch := omega) only [go_sem]); done))); (simp only [putL, List.set_cons_succ, List.set_cons_zero]))) | ((first | (with_reducible refine XRes_nil ?_) | (with_reducible refine ADF_nil ?_) | (with_reducible refine ADR_nil ?_) | (with_reducible refine ADX_nil ?_)); (first | refine hK _ ?_ | refine hK _ _ ?_); clear hK K) | ((first | (with_reducible refine AX_reg0 fun K hK => ?_) | (refine AX_drawG1 tyOK (by kernel_rfl) (by rfl) (by kernel_rfl) fun K hK => ?_) | (refine AX_drawT tyOK (by kernel_rfl) (by decide +kernel) fun K hK => ?_) | (refine AX_drawM1 (by kernel_rfl) (by rfl) (by decide +kernel) fun K hK => ?_) | (refine AX_drawA tyOK (by kernel_rfl) (by decide +kernel) fun K hK => ?_)); (first | simp only [go_sem, preN, effOp, runF, alM, mapOp, alD2, kdOf2, Bool.not_false, Bool.not_true, reduceCtorEq] | simp only [go_sem, preN, effOp, runF, alM, mapOp, Bool.not_false, Bool.not_true, reduceCtorEq] | simp only [go_sem, preN, effOp, runF, alD2, kdOf2, Bool.not_false, Bool.not_true, reduceCtorEq] | simp only [go_sem, alD2, kdOf2, Bool.not_false, Bool.not_true, reduceCtorEq] | simp only [go_sem, preN, effOp, runF, Bool.not_false, Bool.not_true, reduceCtorEq] | simp only [go_sem])) | (first | (first | refine XTL (by rfl) hC ?_ | refine ATL tyOK (by rfl) hC ?_ | refine XTL (by rfl) hD ?_ | refine ATL tyOK (by rfl) hD ?_ | refine XTL (by rfl) hE ?_ | refine ATL tyOK (by rfl) hE ?_)))); refine Wk.o ?_; (repeat revert hK K); exact h9)) : A := w h9
set_option maxRecDepth 100000 in
set_option maxHeartbeats 2000000 in
theorem pf_r13may (n : Int) (E : List Int) (m : Nat) (d x : Int) (hm : m ≤ 1000000) : PF Try.prog 42 [rT n E m d, lt (.int .i64 x)] fun r H' => r = lt (.int .i64 (rMay n E m x)) ∧ H' = [] := by
  refine SF.forgetAll ?_
  have hs1 := trivial; have hs2 := trivial; have hs3 := trivial; have hs4 := trivial; have hs5 := trivial; have hs6 := trivial; have hs7 := trivial; have hs8 := trivial
  have hC := trivial; have hD := trivial; have hE := trivial
  have hC := pf_check13 x n
  unfold rMay
  by_cases h : lcheck x n = 0
  · rw [if_neg (by omega)]
    rw [h] at hC
    have hD := pf_split13 x
    have hE := pf_r13Place n E m d (lvar x) hm
    have hb := rPl_bd E m (lvar x)
    generalize lvar x = v at *
    generalize rPl E m v = p at *
    unfold rT iFlat at *
    by_cases h1 : 0 ≤ p
    · rw [if_pos h1]
      (refine SF_of_bodyX (aload tt) (aload_ok tyOK) Try.func42 rfl (by kernel_rfl) ?_; simp only [Try.ntmps42, List.length_cons, List.length_nil, Nat.reduceAdd, Nat.reduceSub, List.replicate_succ, List.replicate_zero, List.cons_append, List.nil_append])
      (repeat (first | (first | (with_reducible first | refine AX_block ?_ | refine AX_skip ?_ | refine AX_exit ?_ | refine AX_ret ?_ | refine AX_ift ?_ | refine AX_iff ?_ | refine AX_seq_k (fun K hK => ?_) | refine ContX.use (by assumption) ?_) | simp only [thenX, inBlockX, if_true, if_false, reduceCtorEq]) | (first | ((first | (with_reducible refine XRes_op tyOK ?_ ?_) | ((with_reducible first | refine ADF_op tyOK ?_ ?_ ?_ | refine ADX_op tyOK ?_ ?_ ?_); (focus rfl)) | (with_reducible refine ADR_alloc1 tyOK ?_ ?_) | ((with_reducible refine ADR_free1 tyOK ?_ ?_ ?_); (focus rfl)) | ((with_reducible refine ADR_free0 tyOK ?_ ?_ ?_); (focus rfl)) | ((with_reducible refine ADR_read1 tyOK ?_ ?_ ?_); (focus rfl)) | (with_reducible refine ADR_chg1 tyOK ?_ ?_)); (focus (first | (with_reducible rfl) | ((simp (disch := omega) only [go_sem]); done))); simp (disch := omega) only [go_sem , iFlat, hs1, hs2, hs3, hs4, hs5, hs6, hs7, hs8, Int.toNat_zero, Int.toNat_one, List.length_nil]; (first | (with_reducible refine XRes_id ?_) | (with_reducible refine ADF_id ?_) | (with_reducible refine ADR_id1 ?_) | (with_reducible refine ADX_id ?_))) | ((first | (with_reducible refine XRes_skip ?_ ?_) | (with_reducible refine ADF_skip (b := true) ?_ ?_) | (with_reducible refine ADX_skip ?_ ?_) | ((with_reducible refine ADR_skip1 ?_ ?_ ?_); (focus rfl))); (focus (first | rfl | ((simp (disch := omega) only [go_sem]); done))); (simp only [putL, List.set_cons_succ, List.set_cons_zero]))) | ((first | (with_reducible refine XRes_nil ?_) | (with_reducible refine ADF_nil ?_) | (with_reducible refine ADR_nil ?_) | (with_reducible refine ADX_nil ?_)); (first | refine hK _ ?_ | refine hK _ _ ?_); clear hK K) | ((with_reducible refine AX_reg0 fun K hK => ?_); simp only [go_sem]) | (first | (first | refine XTL (by rfl) hC ?_ | refine ATL tyOK (by rfl) hC ?_ | refine XTL (by rfl) hD ?_ | refine ATL tyOK (by rfl) hD ?_ | refine XTL (by rfl) hE ?_ | refine ATL tyOK (by rfl) hE ?_))))
      (refine Wk.o ?_; (repeat revert hK K); refine W3a1ca ?_; (repeat intro K hK); refine ⟨?_⟩)
      (simp only [bodyX]; refine ⟨_, by simp only [aresults, aresult, XS.as, Try.results42, aload, go_sem, Option.bind_some]; rfl, ?_⟩)
      exact ⟨.iv _, rfl, trivial⟩
    · rw [if_neg h1]
      (refine SF_of_bodyX (aload tt) (aload_ok tyOK) Try.func42 rfl (by kernel_rfl) ?_; simp only [Try.ntmps42, List.length_cons, List.length_nil, Nat.reduceAdd, Nat.reduceSub, List.replicate_succ, List.replicate_zero, List.cons_append, List.nil_append])
      (refine Wk.o ?_; (repeat revert hK K); refine W3a1ca ?_; (repeat intro K hK); refine ⟨?_⟩)
      (simp only [bodyX]; refine ⟨_, by simp only [aresults, aresult, XS.as, Try.results42, aload, go_sem, Option.bind_some]; rfl, ?_⟩)
      exact ⟨.iv _, rfl, trivial⟩
  · rw [if_pos h]
    generalize lcheck x n = c at *
    unfold rT iFlat at *
    (refine SF_of_bodyX (aload tt) (aload_ok tyOK) Try.func42 rfl (by kernel_rfl) ?_; simp only [Try.ntmps42, List.length_cons, List.length_nil, Nat.reduceAdd, Nat.reduceSub, List.replicate_succ, List.replicate_zero, List.cons_append, List.nil_append])
    (refine Wk.o ?_; (repeat revert hK K); refine W3a1ca ?_; (repeat intro K hK); refine ⟨?_⟩)
    (simp only [bodyX]; refine ⟨_, by simp only [aresults, aresult, XS.as, Try.results42, aload, go_sem, Option.bind_some]; rfl, ?_⟩)
    exact ⟨.iv _, rfl, trivial⟩
end Go.Proofs.Ytfpmfjmjnmjcdaa
namespace Go.Proofs.Ytfpmfjmjnmjcdaa
def lb (b : Bool) : AV := lt (.bool b)
theorem rnL_lb (r : Nat → Nat) (xs : List Bool) : rnL r (xs.map lb) = xs.map lb := by rw [rnL_map, List.map_map]; rfl
theorem idL_lb (p : Nat → Bool) (xs : List Bool) : idL p (xs.map lb) = true := by rw [idL_all, List.all_map, List.all_eq_true]; exact fun _ _ => rfl
theorem lb_at {xs : List Bool} {k : Nat} (h : k < xs.length) : (xs.map lb)[k]? = some (lt (.bool (xs.getD k false))) := by
  rw [List.getElem?_map, List.getElem?_eq_getElem h, List.getD_eq_getElem?_getD, List.getElem?_eq_getElem h]; rfl
theorem lb_set (xs : List Bool) (k : Nat) (v : Bool) : (xs.map lb).set k (lt (.bool v)) = (xs.set k v).map lb := by rw [List.map_set]; rfl
theorem lb_snoc (xs : List Bool) (v : Bool) : xs.map lb ++ [lt (.bool v)] = (xs ++ [v]).map lb := by rw [List.map_append]; rfl
theorem lb_one (xs : List Bool) : (xs.map lb).all AV.one = true := by rw [List.all_map, List.all_eq_true]; exact fun _ _ => rfl
theorem take_lb {xs : List Bool} {n : Nat} (h : xs.length ≤ n) : (xs.map lb).take n = xs.map lb := List.take_of_length_le (by simpa using h)
theorem Snap.twoP {H : AHeap} {x y x' y' : AV} (h : Snap H x x') (k : Snap H y y') : Snap H (.tup [x, y]) (.tup [x', y']) := .tup _ _ rfl fun i a b e1 e2 => by
  match i with
  | 0 => simp at e1 e2; subst e1 e2; exact h
  | 1 => simp at e1 e2; subst e1 e2; exact k
  | i + 2 => simp at e1
attribute [go_sem] rnL_lb idL_lb lb_at lb_set lb_snoc lb_one take_lb
end Go.Proofs.Ytfpmfjmjnmjcdaa
namespace Go.Proofs.Ytfpmfjmjnmjcdaa
open Go.RowKit
set_option linter.unusedVariables false
set_option linter.unusedSimpArgs false
theorem snap_rT {H : AHeap} {x : AV} {n d : Int} {E : List Int} {m : Nat} (h : Snap H x (.iv (iFlat E m 3))) : Snap H (.agg [lt (.int .i64 n), x, lt (.int .i64 d)]) (rT n E m d) := .agg _ _ rfl (fun i a b e1 e2 => by
  match i with
  | 0 => simp at e1 e2; subst e1 e2; exact .same _ (.iv _)
  | 1 => simp at e1 e2; subst e1 e2; exact h
  | 2 => simp at e1 e2; subst e1 e2; exact .same _ (.iv _)
  | i + 3 => simp at e1) rfl
def rLs (E : List Int) (m : Nat) : List Int := (List.range m).map fun i => E.getD (i * 3 + 0) 0
end Go.Proofs.Ytfpmfjmjnmjcdaa
