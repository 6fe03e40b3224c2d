import Derived.Test.YtcjnikkmjhagmaaGreatDoorMgAU
import Derived.Test.YtcjnikkmjhagmaaGreatDoorMgAV
import Derived.Test.YtcjnikkmjhagmaaGreatDoorMgBC
import Derived.Test.YtcjnikkmjhagmaaGreatDoorMgBE
namespace Go.Proofs.YtcjnikkmjhagmaaGreatDoor
def lb (b : Bool) : AV := lt (.bool b)
theorem rnL_lb (r : Nat → Nat) (xs : List Bool) : rnL r (xs.map lb) = xs.map lb := by rw [rnL_map, List.map_map]; rfl
theorem idL_lb (p : Nat → Bool) (xs : List Bool) : idL p (xs.map lb) = true := by rw [idL_all, List.all_map, List.all_eq_true]; exact fun _ _ => rfl
theorem lb_at {xs : List Bool} {k : Nat} (h : k < xs.length) : (xs.map lb)[k]? = some (lt (.bool (xs.getD k false))) := by
  rw [List.getElem?_map, List.getElem?_eq_getElem h, List.getD_eq_getElem?_getD, List.getElem?_eq_getElem h]; rfl
theorem lb_set (xs : List Bool) (k : Nat) (v : Bool) : (xs.map lb).set k (lt (.bool v)) = (xs.set k v).map lb := by rw [List.map_set]; rfl
theorem lb_snoc (xs : List Bool) (v : Bool) : xs.map lb ++ [lt (.bool v)] = (xs ++ [v]).map lb := by rw [List.map_append]; rfl
theorem lb_one (xs : List Bool) : (xs.map lb).all AV.one = true := by rw [List.all_map, List.all_eq_true]; exact fun _ _ => rfl
theorem take_lb {xs : List Bool} {n : Nat} (h : xs.length ≤ n) : (xs.map lb).take n = xs.map lb := List.take_of_length_le (by simpa using h)
theorem rep_lb (n : Nat) : List.replicate n (AV.iv (IV.lit (Value.bool false))) = (List.replicate n false).map lb := by rw [List.map_replicate]; rfl
theorem snap_lb {H : AHeap} {o : Nat} {t : TypeId} {xs : List Bool} {n : Nat} (h : H[o]? = some (some ⟨t, xs.map lb⟩)) (hn : n = xs.length) : Snap H (.osl o 0 n 1) (.iv (iBools xs)) := by
  subst hn
  exact .iv _ _ (SnapC.lits (fun j => .bool (xs.getD j false)) h fun j hj => by rw [Nat.zero_add]; exact lb_at hj)
theorem Snap.twoP {H : AHeap} {x y x' y' : AV} (h : Snap H x x') (k : Snap H y y') : Snap H (.tup [x, y]) (.tup [x', y']) := .tup _ _ rfl fun i a b e1 e2 => by
  match i with
  | 0 => simp at e1 e2; subst e1 e2; exact h
  | 1 => simp at e1 e2; subst e1 e2; exact k
  | i + 2 => simp at e1
attribute [go_sem] rnL_lb idL_lb lb_at lb_set lb_snoc lb_one take_lb
end Go.Proofs.YtcjnikkmjhagmaaGreatDoor
namespace Go.Proofs.YtcjnikkmjhagmaaGreatDoor
open Go.RowKit
set_option linter.unusedVariables false
set_option linter.unusedSimpArgs false
theorem pf_nVars (o s : Int) : PF Tryz.prog 30 [szA o s] fun r H' => r = lt (.int .i64 (nVars o s)) ∧ H' = [] :=
  PF_of_walk ⟨_, Tryz.func30, by kernel_rfl, rfl⟩ fun G w vs hi hr => by
    obtain ⟨v1, us, rfl, r1, hr⟩ := hr.uncons
    rw [hr.unnil, ra_agg2 r1]
    exact num_Vars o s w
def ptI (n s : Int) (ord : List Int) (k : Nat) : Nat := (nVar n s 1 (ord.getD k 0) k - 1).toNat
def ptU (n s : Int) (ord : List Int) : Nat → List Bool
  | 0 => List.replicate (nVars n s).toNat false
  | k + 1 => (ptU n s ord k).set (ptI n s ord k) true
def tkU (n : Nat) (ord : List Int) : Nat → List Bool
  | 0 => List.replicate n false
  | k + 1 => (tkU n ord k).set (ord.getD k 0).toNat true
def ptG (n : Nat) (ord : List Int) (k : Nat) : Prop := 0 ≤ ord.getD k 0 ∧ ord.getD k 0 < n ∧ (tkU n ord k).getD (ord.getD k 0).toNat false = false
def ptOk (n s : Int) (ord : List Int) : Prop := nOk n s ∧ (ord.length : Int) = n ∧ ∀ k, k < ord.length → ptG n.toNat ord k
instance (n : Nat) (ord : List Int) (k : Nat) : Decidable (ptG n ord k) := by unfold ptG; infer_instance
instance (n s : Int) (ord : List Int) : Decidable (ptOk n s ord) := by unfold ptOk; infer_instance
def ptM (n s : Int) (ord : List Int) : List Bool := if ptOk n s ord then ptU n s ord ord.length else []
def ptB (n s : Int) (ord : List Int) : Bool := decide (ptOk n s ord)
theorem nName_1 {n m a b : Int} (h : nOk n m) (h1 : 0 ≤ a) (h2 : a < n) (h3 : 0 ≤ b) (h4 : b < n) : nName n m 1 a b := ⟨h, by decide, by decide, h1, h2, h3, h4⟩
end Go.Proofs.YtcjnikkmjhagmaaGreatDoor
namespace Go.Proofs.YtcjnikkmjhagmaaGreatDoor
open Go.RowKit
set_option linter.unusedVariables false
set_option linter.unusedSimpArgs false
theorem cAll_lim (n m : Int) (l : List Op5) : 0 ≤ cAll n m l ∧ cAll n m l ≤ 400000000 := by
  have l1 := qP_lim n m
  have l2 := qT_lim n m (prN l)
  have l3 := qS_lim n m
  have l4 := qM_lim n m (enN l)
  unfold cAll; split <;> omega
def cFits (n m : Int) (l : List Op5) : Int := if cAll n m l = 0 then 2 else if 500000 < cAll n m l ∨ 900 < nVars n m then 3 else 0
theorem Wec42a {A B : Prop} (h9 : B) (w : B → A := by (intro h9; (repeat intro K hK); refine ⟨?_⟩; (repeat (first | (first | (with_reducible first | refine AX_block ?_ | refine AX_skip ?_ | refine AX_exit ?_ | refine AX_ret ?_ | refine AX_ift ?_ | refine AX_iff ?_ | refine AX_seq_k (fun K hK => ?_) | refine ContX.use (by assumption) ?_) | simp only [thenX, inBlockX, if_true, if_false, reduceCtorEq]) | (first | ((with_reducible refine XOP tyOK ?_); simp (disch := omega) only [go_sem , iOps, iFlat, iInts, eqRes, Int.toNat_zero, Int.toNat_one, hs1, hs2, hs3, rows_one, rows_take, List.length_nil]; (with_reducible refine XRes_id ?_)) | (with_reducible refine XSK ?_)) | ((with_reducible refine XRes_nil ?_); refine hK _ ?_; clear hK K) | ((with_reducible refine AX_reg0 fun K hK => ?_); simp only [go_sem]) | (first | (first | refine XTL (by rfl) hA ?_ | refine XTL (by rfl) hV ?_)))); refine Wk.o ?_; (repeat revert hK K); exact h9)) : A := w h9
set_option maxRecDepth 100000 in
set_option maxHeartbeats 1000000 in
theorem pf_cFits (n m : Int) (l : List Op5) (hl : l.length ≤ 100) (hs : okS l) : PF Tryz.prog 67 [szA n m, .iv (iOps l)] fun r H' => r = lt (.int .i64 (cFits n m l)) ∧ H' = [] := by
  refine SF.forgetAll ?_
  have hs1 := trivial; have hs2 := trivial; have hs3 := trivial
  have hA := pf_cAll n m l hl hs
  have hV := pf_nVars n m
  have hb := cAll_lim n m l
  unfold cFits
  generalize cAll n m l = A at *
  generalize nVars n m = V at *
  by_cases h1 : A = 0
  · rw [if_pos h1]
    (refine SF_of_bodyX (aload tt) (aload_ok tyOK) Tryz.func67 rfl (by kernel_rfl) ?_; simp only [Tryz.ntmps67, List.length_cons, List.length_nil, Nat.reduceAdd, Nat.reduceSub, List.replicate_succ, List.replicate_zero, List.cons_append, List.nil_append])
    (refine Wk.o ?_; (repeat revert hK K); refine Wec42a ?_; (repeat intro K hK); refine ⟨?_⟩)
    (simp only [bodyX]; refine ⟨_, by simp only [aresults, aresult, XS.as, Tryz.results67, aload, go_sem, Option.bind_some]; rfl, ?_⟩)
    exact ⟨.iv _, rfl, trivial⟩
  · rw [if_neg h1]
    by_cases h2 : 500000 < A
    · rw [if_pos (.inl h2)]
      (refine SF_of_bodyX (aload tt) (aload_ok tyOK) Tryz.func67 rfl (by kernel_rfl) ?_; simp only [Tryz.ntmps67, List.length_cons, List.length_nil, Nat.reduceAdd, Nat.reduceSub, List.replicate_succ, List.replicate_zero, List.cons_append, List.nil_append])
      (refine Wk.o ?_; (repeat revert hK K); refine Wec42a ?_; (repeat intro K hK); refine ⟨?_⟩)
      (simp only [bodyX]; refine ⟨_, by simp only [aresults, aresult, XS.as, Tryz.results67, aload, go_sem, Option.bind_some]; rfl, ?_⟩)
      exact ⟨.iv _, rfl, trivial⟩
    · by_cases h3 : 900 < V
      · rw [if_pos (.inr h3)]
        (refine SF_of_bodyX (aload tt) (aload_ok tyOK) Tryz.func67 rfl (by kernel_rfl) ?_; simp only [Tryz.ntmps67, List.length_cons, List.length_nil, Nat.reduceAdd, Nat.reduceSub, List.replicate_succ, List.replicate_zero, List.cons_append, List.nil_append])
        (refine Wk.o ?_; (repeat revert hK K); refine Wec42a ?_; (repeat intro K hK); refine ⟨?_⟩)
        (simp only [bodyX]; refine ⟨_, by simp only [aresults, aresult, XS.as, Tryz.results67, aload, go_sem, Option.bind_some]; rfl, ?_⟩)
        exact ⟨.iv _, rfl, trivial⟩
      · rw [if_neg (by omega)]
        (refine SF_of_bodyX (aload tt) (aload_ok tyOK) Tryz.func67 rfl (by kernel_rfl) ?_; simp only [Tryz.ntmps67, List.length_cons, List.length_nil, Nat.reduceAdd, Nat.reduceSub, List.replicate_succ, List.replicate_zero, List.cons_append, List.nil_append])
        (refine Wk.o ?_; (repeat revert hK K); refine Wec42a ?_; (repeat intro K hK); refine ⟨?_⟩)
        (simp only [bodyX]; refine ⟨_, by simp only [aresults, aresult, XS.as, Tryz.results67, aload, go_sem, Option.bind_some]; rfl, ?_⟩)
        exact ⟨.iv _, rfl, trivial⟩
end Go.Proofs.YtcjnikkmjhagmaaGreatDoor
