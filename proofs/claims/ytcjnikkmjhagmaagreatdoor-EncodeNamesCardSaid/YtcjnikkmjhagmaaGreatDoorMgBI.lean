import Derived.Test.YtcjnikkmjhagmaaGreatDoorMgBG
import Derived.Test.YtcjnikkmjhagmaaGreatDoorMgBE
namespace Go.Proofs.YtcjnikkmjhagmaaGreatDoor
open Go.RowKit
set_option linter.unusedVariables false
set_option linter.unusedSimpArgs false
theorem frz_row {H : AHeap} {ds : List Nat} {o : Nat} {t : TypeId} {x : IV} (hd : o ∈ ds) (h : H[o]? = some (some ⟨t, [.iv x]⟩)) : FrzV (onlyH ds H) (.optr o 0) (.iv (.ptr (fun _ => x) 1)) := by
  refine .iv _ _ (.optr o 0 1 _ ⟨t, [.iv x]⟩ (fun j => .iv x) (by decide) (only_mk hd h) (fun j hj => ?_) fun j _ => .iv _)
  rcases j with _ | j
  · rfl
  · omega
def gOk (ok : Nat → Bool) (n : Nat) : Prop := ∀ i, i < n → ok i = true
instance (ok : Nat → Bool) (n : Nat) : Decidable (gOk ok n) := by unfold gOk; infer_instance
def gXs (v : Nat → Int) (ok : Nat → Bool) (n : Nat) : List Int := if gOk ok n then (List.range n).map v else []
def gB (ok : Nat → Bool) (n : Nat) : Bool := decide (gOk ok n)
theorem g_yes {v : Nat → Int} {ok : Nat → Bool} {n : Nat} (h : gOk ok n) : gXs v ok n = (List.range n).map v ∧ gB ok n = true := ⟨by unfold gXs; rw [if_pos h], by unfold gB; rw [decide_eq_true h]⟩
theorem g_no {v : Nat → Int} {ok : Nat → Bool} {n : Nat} (h : ¬ gOk ok n) : gXs v ok n = [] ∧ gB ok n = false := ⟨by unfold gXs; rw [if_neg h], by unfold gB; rw [decide_eq_false h]⟩
theorem rmap_succ (v : Nat → Int) (k : Nat) : (List.range (k + 1)).map v = (List.range k).map v ++ [v k] := by rw [List.range_succ, List.map_append]; rfl
theorem rmap_len (v : Nat → Int) (k : Nat) : ((List.range k).map v).length = k := by simp
theorem Wb462a {A B : Prop} (h9 : B) (w : B → A := by (intro h9; (repeat intro K hK); refine ⟨?_⟩; (repeat (first | (first | (with_reducible first | refine AX_block ?_ | refine AX_skip ?_ | refine AX_exit ?_ | refine AX_ret ?_ | refine AX_ift ?_ | refine AX_iff ?_ | refine AX_seq_k (fun K hK => ?_) | refine ContX.use (by assumption) ?_) | simp only [thenX, inBlockX, if_true, if_false, reduceCtorEq]) | (first | ((with_reducible refine XOP tyOK ?_); simp (disch := omega) only [go_sem , iInts, iBools, szG, hs1, hs2, hs3, hs4, hs5, hs6, rep_lb, List.length_nil, Int.add_sub_cancel]; (with_reducible refine XRes_id ?_)) | (with_reducible refine XSK ?_)) | ((with_reducible refine XRes_nil ?_); refine hK _ ?_; clear hK K) | ((with_reducible refine AX_reg0 fun K hK => ?_); simp only [go_sem]) | (first | (first | refine XTL (by rfl) hCk ?_ | refine XTL (by rfl) hVs ?_ | refine XTL (by rfl) hG ?_ | refine XTL (by rfl) hV ?_) | ((refine XRes_slot (by rfl) rfl (PF.tells (idsA rfl) (fun _ => rfl) hcl) ?_); (rintro r H' ⟨rfl, rfl⟩); (simp only [putL, List.set_cons_succ, List.set_cons_zero]))))); refine Wk.o ?_; (repeat revert hK K); exact h9)) : A := w h9
set_option maxRecDepth 100000 in
set_option maxHeartbeats 4000000 in
theorem pf_gatherI (n : Nat) (hn : n ≤ 100000) (f : FuncId) (c1 c2 : IV) (v : Nat → Int) (ok : Nat → Bool) (hcl : ∀ i : Nat, i < n → PF Tryz.prog f [lt (.int .i64 i), .iv c1, .iv c2] fun r H' => r = .tup [lt (.int .i64 (v i)), lt (.bool (ok i))] ∧ H' = []) :
    PF Tryz.prog 94 [lt (.int .i64 n), .fn f [] [.iv c1, .iv c2]] fun r H' => r = .tup [.iv (iInts (gXs v ok n)), lt (.bool (gB ok n))] ∧ H' = [] := by
  refine SF.frozen ?_
  have hs1 := trivial; have hs2 := trivial; have hs3 := trivial; have hs4 := trivial; have hs5 := trivial; have hs6 := trivial
  have hCk := trivial; have hVs := trivial; have hG := trivial; have hV := trivial
  (refine SF_of_bodyX (aload tt) (aload_ok tyOK) Tryz.func94 rfl (by kernel_rfl) ?_; simp only [Tryz.ntmps94, List.length_cons, List.length_nil, Nat.reduceAdd, Nat.reduceSub, List.replicate_succ, List.replicate_zero, List.cons_append, List.nil_append])
  (refine Wk.o ?_; (repeat revert hK K); refine Wb462a ?_; (repeat intro K hK); refine ⟨?_⟩)
  refine AX_nil 6 3 1 rfl ?_
  (refine AWH (σ := Nat × List Int) [12, 13, 7, 15, 16, 17, 14, 18, 19, 8, 9, 20, 21, 4, 5, 22, 23, 24, 25, 26] (fun (k, xs) => [(11, lint k), (6, .osl 0 0 k 1)]) (fun (k, xs) => [some ⟨3, xs.map lint⟩]) (fun (k, xs) => []) (fun (k, xs) => k ≤ n ∧ xs = (List.range k).map v ∧ ∀ j, j < k → ok j = true) (fun (k, xs) => n - k) (0, []) (by first | exact ⟨Nat.zero_le _, rfl, fun j h => absurd h (by omega)⟩) ?_; rintro ⟨k, xs⟩ d fr hfr ⟨hk, hx, hj⟩; simp only [updS, deadS, List.set_cons_succ, List.set_cons_zero, lint] at hfr; subst hfr; (try dsimp only))
  have hxl : xs.length = k := by rw [hx, rmap_len]
  by_cases hlt : k < n
  · have hcl := hcl k hlt
    cases ho : ok k with
    | true =>
      rw [ho] at hcl
      (refine Wk.o ?_; (repeat revert hK K); refine Wb462a ?_; (repeat intro K hK); refine ⟨?_⟩)
      refine WRN [2] (k + 1, xs ++ [v k]) ⟨by omega, by rw [rmap_succ, hx], fun j hj3 => ?_⟩ (by (first | omega | (dsimp only; omega) | (simp only; omega)))
      rcases Nat.lt_or_ge j k with h | h
      · exact hj j h
      · rw [show j = k by omega]; exact ho
    | false =>
      rw [ho] at hcl
      obtain ⟨e1, e2⟩ := g_no (v := v) (ok := ok) (n := n) fun h => by rw [h k hlt] at ho; cases ho
      (refine Wk.o ?_; (repeat revert hK K); refine Wb462a ?_; (repeat intro K hK); refine ⟨?_⟩)
      (simp only [bodyX]; refine ⟨_, by simp only [aresults, aresult, XS.as, Tryz.results94, aload, go_sem, Option.bind_some]; rfl, ?_⟩)
      exact ⟨_, Snap.twoP (.iv _ _ (.nil _ _)) (.same _ (.iv _)), by rw [e1, e2]; rfl, trivial⟩
  · obtain rfl : k = n := by omega
    obtain ⟨e1, e2⟩ := g_yes (v := v) (ok := ok) (n := k) hj
    (refine Wk.o ?_; (repeat revert hK K); refine Wb462a ?_; (repeat intro K hK); refine ⟨?_⟩)
    (simp only [bodyX]; refine ⟨_, by simp only [aresults, aresult, XS.as, Tryz.results94, aload, go_sem, Option.bind_some]; rfl, ?_⟩)
    exact ⟨_, Snap.twoP (snap_ints rfl hxl.symm) (.same _ (.iv _)), by rw [e1, e2, hx], trivial⟩
def srV (n m : Int) (row : List Int) (i : Nat) : Int := nVar n m 3 i (row.getD i 0)
end Go.Proofs.YtcjnikkmjhagmaaGreatDoor
namespace Go.Proofs.YtcjnikkmjhagmaaGreatDoor
open Go.RowKit
set_option linter.unusedVariables false
set_option linter.unusedSimpArgs false
def atV (n m : Int) (q : Int) (k : Nat) : List Int := (List.range k).map fun i : Nat => nVar n m 3 q i
theorem atV_len (n m : Int) (q : Int) (k : Nat) : (atV n m q k).length = k := by unfold atV; simp
theorem atV_lim (n m : Int) (q : Int) (k j : Nat) : 0 ≤ (atV n m q k).getD j 0 ∧ (atV n m q k).getD j 0 ≤ 100000 := gV_lim (fun i => nVar_lim n m 3 q i) k j
def stP (n m : Int) (S : Nat) (i : Nat) : List (List Int) := atV n m i S :: msAll (atV n m i S)
def iRows3 (xs : List (List (List Int))) : IV := .sl (fun j => iRows (xs.getD j [])) xs.length 1
abbrev rowsA (R : List (List Int)) : AV := .iv (iRows R)
theorem g3_one (xs : List (List (List Int))) : (xs.map rowsA).all AV.one = true := by rw [List.all_map, List.all_eq_true]; exact fun _ _ => rfl
theorem g3_rn (r : Nat → Nat) (R : List (List (List Int))) : rnL r (R.map rowsA) = R.map rowsA := by rw [rnL_map, List.map_map]; rfl
theorem g3_id (p : Nat → Bool) (R : List (List (List Int))) : idL p (R.map rowsA) = true := by rw [idL_all, List.all_map, List.all_eq_true]; exact fun _ _ => rfl
theorem snap_g3 {H : AHeap} {o n : Nat} {t : TypeId} {R : List (List (List Int))} (h : H[o]? = some (some ⟨t, R.map rowsA⟩)) (hn : n = R.length) : Snap H (.osl o 0 n 1) (.iv (iRows3 R)) := by
  subst hn
  exact .iv _ _ (.osl o 0 R.length 1 _ _ (fun j => rowsA (R.getD j [])) (by decide) h (fun j hj => by
    rw [Nat.zero_add]; show (R.map rowsA)[j]? = _
    rw [List.getElem?_map, List.getElem?_eq_getElem (by omega)]; simp only [Option.map_some, List.getD_eq_getElem?_getD, List.getElem?_eq_getElem (show j < R.length by omega), Option.getD_some]) fun j _ => .iv _)
theorem Wc936a {A B : Prop} (h9 : B) (w : B → A := by (intro h9; (repeat intro K hK); refine ⟨?_⟩; (repeat (first | (first | (with_reducible first | refine AX_block ?_ | refine AX_skip ?_ | refine AX_exit ?_ | refine AX_ret ?_ | refine AX_ift ?_ | refine AX_iff ?_ | refine AX_seq_k (fun K hK => ?_) | refine ContX.use (by assumption) ?_) | simp only [thenX, inBlockX, if_true, if_false, reduceCtorEq]) | (first | ((with_reducible refine XOP tyOK ?_); simp (disch := omega) only [go_sem , range_rowsU, iInts, iRows, iFlat, oneG, szG, hs1, hs2, hs3, rows_one, rows_take, g3_one, g3_rn, g3_id, List.length_nil]; (with_reducible refine XRes_id ?_)) | (with_reducible refine XSK ?_)) | ((with_reducible refine XRes_nil ?_); refine hK _ ?_; clear hK K) | ((with_reducible refine AX_reg0 fun K hK => ?_); simp only [go_sem]) | (first | (first | refine XTL (by rfl) hV ?_ | refine XTL (by rfl) hG ?_ | refine XTL (by rfl) hA ?_ | refine XTL (by rfl) hMo ?_) | ((refine XRes_slot (by rfl) rfl (PF.tells (idsA rfl) (fun _ => rfl) hcl) ?_); (rintro r H' ⟨rfl, rfl⟩); (simp only [putL, List.set_cons_succ, List.set_cons_zero]))))); refine Wk.o ?_; (repeat revert hK K); exact h9)) : A := w h9
set_option maxRecDepth 100000 in
set_option maxHeartbeats 1000000 in
theorem pf_at1 (n m q : Int) (i : Nat) : PF Tryz.prog 114 [lt (.int .i64 i), .iv (.ptr (szG n m) 2), .iv (.ptr (oneG q) 1)] fun r H' => r = .tup [lt (.int .i64 (nVar n m 3 q i)), lt (.bool true)] ∧ H' = [] := by
  refine SF.forgetAll ?_
  have hs1 := trivial; have hs2 := trivial; have hs3 := trivial; have hG := trivial; have hA := trivial; have hMo := trivial; have hcl := trivial
  have hV := pf_nVar n m 3 q i
  (refine SF_of_bodyX (aload tt) (aload_ok tyOK) Tryz.func114 rfl (by kernel_rfl) ?_; simp only [Tryz.ntmps114, List.length_cons, List.length_nil, Nat.reduceAdd, Nat.reduceSub, List.replicate_succ, List.replicate_zero, List.cons_append, List.nil_append])
  (refine Wk.o ?_; (repeat revert hK K); refine Wc936a ?_; (repeat intro K hK); refine ⟨?_⟩)
  (simp only [bodyX]; refine ⟨_, by simp only [aresults, aresult, XS.as, Tryz.results114, aload, go_sem, Option.bind_some]; rfl, ?_⟩)
  exact ⟨ids_idB rfl, rfl, trivial⟩
set_option maxRecDepth 100000 in
set_option maxHeartbeats 1000000 in
theorem pf_at (n : Int) (S : Nat) (q : Int) (hS : S ≤ 32) : PF Tryz.prog 75 [szA n S, lt (.int .i64 q)] fun r H' => r = .iv (iInts (atV n S q S)) ∧ H' = [] := by
  refine SF.forgetAll ?_
  have hs1 := trivial; have hs2 := trivial; have hs3 := trivial; have hV := trivial; have hA := trivial; have hMo := trivial; have hcl := trivial
  have hG := pf_gatherI S (by omega) 114 (.ptr (szG n S) 2) (.ptr (oneG q) 1) (fun i => nVar n S 3 q i) (fun _ => true) fun i hi => pf_at1 n S q i
  have hg : gOk (fun _ => true) S := fun i hi => rfl
  rw [(g_yes (v := fun i : Nat => nVar n S 3 q i) hg).1, (g_yes (v := fun i : Nat => nVar n S 3 q i) hg).2] at hG
  (refine SF_of_bodyX (aload tt) (aload_ok tyOK) Tryz.func75 rfl (by kernel_rfl) ?_; simp only [Tryz.ntmps75, List.length_cons, List.length_nil, Nat.reduceAdd, Nat.reduceSub, List.replicate_succ, List.replicate_zero, List.cons_append, List.nil_append])
  (repeat (first | (with_reducible first | refine AX_block ?_ | refine AX_skip ?_ | refine AX_exit ?_ | refine AX_ret ?_ | refine AX_ift ?_ | refine AX_iff ?_ | refine AX_seq_k (fun K hK => ?_) | refine ContX.use (by assumption) ?_) | simp only [thenX, inBlockX, if_true, if_false, reduceCtorEq]))
  ((with_reducible refine AX_reg0 fun K hK => ?_); simp only [go_sem])
  repeat (first | ((with_reducible refine XOP tyOK ?_); simp (disch := omega) only [go_sem , range_rowsU, iInts, iRows, iFlat, oneG, szG, hs1, hs2, hs3, rows_one, rows_take, g3_one, g3_rn, g3_id, List.length_nil]; (with_reducible refine XRes_id ?_)) | (with_reducible refine XSK ?_))
  ((with_reducible refine XRes_nil ?_); refine hK _ ?_; clear hK K)
  (repeat (first | (with_reducible first | refine AX_block ?_ | refine AX_skip ?_ | refine AX_exit ?_ | refine AX_ret ?_ | refine AX_ift ?_ | refine AX_iff ?_ | refine AX_seq_k (fun K hK => ?_) | refine ContX.use (by assumption) ?_) | simp only [thenX, inBlockX, if_true, if_false, reduceCtorEq]))
  refine AX_freeze [0, 1] [(2, .iv (.ptr (szG n S) 2)), (3, .iv (.ptr (oneG q) 1))] (fun p hp => ?_) ?_
  · rcases List.mem_cons.1 hp with rfl | hp
    · exact frz_sz (by decide) rfl
    · rw [List.mem_singleton.1 hp]; exact frz_one (by decide) rfl
  simp only [setN, updS, List.set_cons_succ, List.set_cons_zero]
  (refine Wk.o ?_; (repeat revert hK K); refine Wc936a ?_; (repeat intro K hK); refine ⟨?_⟩)
  (simp only [bodyX]; refine ⟨_, by simp only [aresults, aresult, XS.as, Tryz.results75, aload, go_sem, Option.bind_some]; rfl, ?_⟩)
  exact ⟨.iv _, by unfold atV iInts; rw [List.length_map], trivial⟩
set_option maxRecDepth 100000 in
set_option maxHeartbeats 1000000 in
theorem pf_stCl1 (n : Int) (S : Nat) (i : Nat) (hS : S ≤ 32) : PF Tryz.prog 77 [lt (.int .i64 i), .iv (.ptr (szG n S) 2)] fun r H' => r = .tup [.iv (iRows (stP n S S i)), lt (.bool true)] ∧ H' = [] := by
  refine SF.frozen ?_
  have hs1 := trivial; have hs2 := trivial; have hs3 := trivial; have hV := trivial; have hG := trivial; have hcl := trivial
  have hA := pf_at n S i hS
  have hMo := pf_most (atV n S i S) (by rw [atV_len]; omega) (atV_lim n S i S)
  unfold iRows at hMo
  have hml := msAll_len (atV n S i S)
  rw [atV_len] at hml
  have hml2 : S * S ≤ 32 * 32 := Nat.mul_le_mul hS hS
  (refine SF_of_bodyX (aload tt) (aload_ok tyOK) Tryz.func77 rfl (by kernel_rfl) ?_; simp only [Tryz.ntmps77, List.length_cons, List.length_nil, Nat.reduceAdd, Nat.reduceSub, List.replicate_succ, List.replicate_zero, List.cons_append, List.nil_append])
  (refine Wk.o ?_; (repeat revert hK K); refine Wc936a ?_; (repeat intro K hK); refine ⟨?_⟩)
  (simp only [bodyX]; refine ⟨_, by simp only [aresults, aresult, XS.as, Tryz.results77, aload, go_sem, Option.bind_some]; rfl, ?_⟩)
  exact ⟨_, Snap.twoP (snap_rws (R := stP n S S i) rfl (by show _ = (msAll _).length + 1; omega)) (.same _ (.iv _)), rfl, trivial⟩
set_option maxRecDepth 100000 in
set_option maxHeartbeats 4000000 in
theorem pf_gatherR (n : Nat) (hn : n ≤ 1000) (f : FuncId) (c1 : IV) (v : Nat → List (List Int)) (hcl : ∀ i : Nat, i < n → PF Tryz.prog f [lt (.int .i64 i), .iv c1] fun r H' => r = .tup [.iv (iRows (v i)), lt (.bool true)] ∧ H' = []) :
    PF Tryz.prog 76 [lt (.int .i64 n), .fn f [] [.iv c1]] fun r H' => r = .tup [.iv (iRows3 ((List.range n).map v)), lt (.bool true)] ∧ H' = [] := by
  refine SF.frozen ?_
  have hs1 := trivial; have hs2 := trivial; have hs3 := trivial
  have hV := trivial; have hG := trivial; have hA := trivial; have hMo := trivial
  (refine SF_of_bodyX (aload tt) (aload_ok tyOK) Tryz.func76 rfl (by kernel_rfl) ?_; simp only [Tryz.ntmps76, List.length_cons, List.length_nil, Nat.reduceAdd, Nat.reduceSub, List.replicate_succ, List.replicate_zero, List.cons_append, List.nil_append])
  (refine Wk.o ?_; (repeat revert hK K); refine Wc936a ?_; (repeat intro K hK); refine ⟨?_⟩)
  refine AX_nil 6 29 1 rfl ?_
  (refine AWH (σ := Nat × List (List (List Int))) [12, 13, 7, 15, 16, 17, 14, 18, 19, 8, 9, 20, 21, 4, 5, 22, 23, 24, 25, 26] (fun (k, xs) => [(11, lint k), (6, .osl 0 0 k 1)]) (fun (k, xs) => [some ⟨29, xs.map rowsA⟩]) (fun (k, xs) => []) (fun (k, xs) => k ≤ n ∧ xs = (List.range k).map v) (fun (k, xs) => n - k) (0, []) (by first | exact ⟨Nat.zero_le _, rfl⟩) ?_; rintro ⟨k, xs⟩ d fr hfr ⟨hk, hx⟩; simp only [updS, deadS, List.set_cons_succ, List.set_cons_zero, lint] at hfr; subst hfr; (try dsimp only))
  have hxl : xs.length = k := by rw [hx]; simp
  by_cases hlt : k < n
  · have hcl := hcl k hlt
    (refine Wk.o ?_; (repeat revert hK K); refine Wc936a ?_; (repeat intro K hK); refine ⟨?_⟩)
    obtain ⟨ys, hys⟩ : ∃ ys, ys = xs ++ [v k] := ⟨_, rfl⟩
    refine xs_set (P := WhX _ _ _ _ _ _ _ _ _) 2 29 _ (ys.map rowsA) rfl ?_ ?_
    · rw [List.take_of_length_le (by simp; omega), hys, List.map_append]; rfl
    simp only [List.set_cons_succ, List.set_cons_zero]
    exact whx_ren [2] (k + 1, ys) ⟨by omega, by rw [hys, hx, List.range_succ, List.map_append]; rfl⟩ (by (first | omega | (dsimp only; omega) | (simp only; omega))) rfl (by decide) (by decide) (by (simp (disch := omega) only [go_sem, lint, g3_one, g3_rn, g3_id])) (by (simp (disch := omega) only [go_sem, lint, g3_one, g3_rn, g3_id])) (by (simp (disch := omega) only [go_sem, lint, g3_one, g3_rn, g3_id])) (fun d => by (simp (disch := omega) only [go_sem, lint, g3_one, g3_rn, g3_id]))
  · obtain rfl : k = n := by omega
    (refine Wk.o ?_; (repeat revert hK K); refine Wc936a ?_; (repeat intro K hK); refine ⟨?_⟩)
    (simp only [bodyX]; refine ⟨_, by simp only [aresults, aresult, XS.as, Tryz.results76, aload, go_sem, Option.bind_some]; rfl, ?_⟩)
    exact ⟨_, Snap.twoP (snap_g3 rfl hxl.symm) (.same _ (.iv _)), by rw [hx], trivial⟩
end Go.Proofs.YtcjnikkmjhagmaaGreatDoor
namespace Go.Proofs.YtcjnikkmjhagmaaGreatDoor
open Go.RowKit
set_option linter.unusedVariables false
set_option linter.unusedSimpArgs false
def stUp (n : Int) (S : Nat) (k : Nat) : List (List Int) := (List.range k).flatMap (stP n S S)
def stL (n m init : Int) : List (List Int) := if nOk n m ∧ 0 ≤ init ∧ init < m then [nVar n m 3 0 init] :: stUp n m.toNat (n.toNat + 1) else []
theorem stUp_succ (n : Int) (S k : Nat) : stUp n S (k + 1) = stUp n S k ++ stP n S S k := by unfold stUp; rw [List.range_succ, List.flatMap_append]; simp
theorem stP_len (n : Int) (S i : Nat) (hS : S ≤ 32) : (stP n S S i).length ≤ 1025 := by
  unfold stP
  have h := msAll_len (atV n S i S)
  rw [atV_len] at h
  have h2 : S * S ≤ 32 * 32 := Nat.mul_le_mul hS hS
  rw [List.length_cons]; omega
theorem atV_at (n m q : Int) {k i : Nat} (h : i < k) : (atV n m q k).getD i 0 = nVar n m 3 q i := by
  unfold atV; rw [List.getD_eq_getElem?_getD, List.getElem?_map, List.getElem?_range h]; rfl
theorem g3_at {v : Nat → List (List Int)} {n k : Nat} (h : k < n) : ((List.range n).map v).getD k [] = v k := by
  rw [List.getD_eq_getElem?_getD, List.getElem?_map, List.getElem?_range h]; rfl
theorem W0ae0a {A B : Prop} (h9 : B) (w : B → A := by (intro h9; (repeat intro K hK); refine ⟨?_⟩; (repeat (first | (first | (with_reducible first | refine AX_block ?_ | refine AX_skip ?_ | refine AX_exit ?_ | refine AX_ret ?_ | refine AX_ift ?_ | refine AX_iff ?_ | refine AX_seq_k (fun K hK => ?_) | refine ContX.use (by assumption) ?_) | simp only [thenX, inBlockX, if_true, if_false, reduceCtorEq]) | (first | ((with_reducible refine XOP tyOK ?_); simp (disch := omega) only [go_sem , range_rowsU, iInts, iRows, iRows3, iFlat, szG, hs1, hs2, hs3, rows_one, rows_take, atV_len, List.length_nil]; (with_reducible refine XRes_id ?_)) | (with_reducible refine XSK ?_)) | ((with_reducible refine XRes_nil ?_); refine hK _ ?_; clear hK K) | ((with_reducible refine AX_reg0 fun K hK => ?_); simp only [go_sem]) | (first | (first | refine XTL (by rfl) hCk ?_ | refine XTL (by rfl) hG ?_ | refine XTL (by rfl) hA ?_)))); refine Wk.o ?_; (repeat revert hK K); exact h9)) : A := w h9
set_option maxRecDepth 100000 in
set_option maxHeartbeats 4000000 in
theorem pf_stClauses (n m init : Int) : PF Tryz.prog 28 [szA n m, lt (.int .i64 init)] fun r H' => r = .iv (iRows (stL n m init)) ∧ H' = [] := by
  refine SF.frozen ?_
  have hs1 := trivial; have hs2 := trivial; have hs3 := trivial; have hG := trivial; have hA := trivial
  have hCk := pf_nCheck n m
  by_cases hok : nOk n m
  · rw [nCheck_yes hok] at hCk
    by_cases hi : 0 ≤ init
    · by_cases hi2 : init < m
      · rw [show stL n m init = [nVar n m 3 0 init] :: stUp n m.toNat (n.toNat + 1) by unfold stL; rw [if_pos ⟨hok, hi, hi2⟩]]
        obtain ⟨n, rfl⟩ : ∃ N : Nat, n = N := ⟨n.toNat, by unfold nOk at hok; omega⟩
        obtain ⟨m, rfl⟩ : ∃ N : Nat, m = N := ⟨m.toNat, by unfold nOk at hok; omega⟩
        obtain ⟨init, rfl⟩ : ∃ N : Nat, init = N := ⟨init.toNat, by omega⟩
        have hn : n ≤ 64 := by unfold nOk at hok; omega
        have hm : m ≤ 32 := by unfold nOk at hok; omega
        rw [Int.toNat_natCast, Int.toNat_natCast]
        have hA := pf_at n m 0 hm
        have hG := pf_gatherR (n + 1) (by omega) 77 (.ptr (szG n m) 2) (stP n m m) fun i hi => pf_stCl1 n m i hm
        obtain ⟨L, hL⟩ : ∃ L, L = (List.range (n + 1)).map (stP n m m) := ⟨_, rfl⟩
        rw [← hL] at hG
        unfold iRows3 at hG
        have hs1 : (atV n m 0 m).getD init 0 = nVar n m 3 0 init := atV_at _ _ _ (by omega)
        have hs2 : L.length = n + 1 := by rw [hL]; simp
        have hLk : ∀ k, k < n + 1 → L.getD k [] = stP n m m k := fun k hk => by rw [hL]; exact g3_at hk
        clear hL
        (refine SF_of_bodyX (aload tt) (aload_ok tyOK) Tryz.func28 rfl (by kernel_rfl) ?_; simp only [Tryz.ntmps28, List.length_cons, List.length_nil, Nat.reduceAdd, Nat.reduceSub, List.replicate_succ, List.replicate_zero, List.cons_append, List.nil_append])
        (repeat (first | (with_reducible first | refine AX_block ?_ | refine AX_skip ?_ | refine AX_exit ?_ | refine AX_ret ?_ | refine AX_ift ?_ | refine AX_iff ?_ | refine AX_seq_k (fun K hK => ?_) | refine ContX.use (by assumption) ?_) | simp only [thenX, inBlockX, if_true, if_false, reduceCtorEq]))
        ((with_reducible refine AX_reg0 fun K hK => ?_); simp only [go_sem])
        repeat (first | ((with_reducible refine XOP tyOK ?_); simp (disch := omega) only [go_sem , range_rowsU, iInts, iRows, iRows3, iFlat, szG, hs1, hs2, hs3, rows_one, rows_take, atV_len, List.length_nil]; (with_reducible refine XRes_id ?_)) | (with_reducible refine XSK ?_))
        ((with_reducible refine XRes_nil ?_); refine hK _ ?_; clear hK K)
        (repeat (first | (with_reducible first | refine AX_block ?_ | refine AX_skip ?_ | refine AX_exit ?_ | refine AX_ret ?_ | refine AX_ift ?_ | refine AX_iff ?_ | refine AX_seq_k (fun K hK => ?_) | refine ContX.use (by assumption) ?_) | simp only [thenX, inBlockX, if_true, if_false, reduceCtorEq]))
        refine AX_freeze [0] [(2, .iv (.ptr (szG n m) 2))] (fun p hp => ?_) ?_
        · rw [List.mem_singleton.1 hp]; exact frz_sz (by decide) rfl
        simp only [setN, updS, List.set_cons_succ, List.set_cons_zero]
        (repeat (first | (first | (with_reducible first | refine AX_block ?_ | refine AX_skip ?_ | refine AX_exit ?_ | refine AX_ret ?_ | refine AX_ift ?_ | refine AX_iff ?_ | refine AX_seq_k (fun K hK => ?_) | refine ContX.use (by assumption) ?_) | simp only [thenX, inBlockX, if_true, if_false, reduceCtorEq]) | ((refine XRes_litF tyOK (by rfl) rfl (by decide) rfl rfl ?_); (simp only [List.map_cons, List.map_nil, intOf, putL, List.set_cons_succ, List.set_cons_zero])) | (first | ((with_reducible refine XOP tyOK ?_); simp (disch := omega) only [go_sem , range_rowsU, iInts, iRows, iRows3, iFlat, szG, hs1, hs2, hs3, rows_one, rows_take, atV_len, List.length_nil]; (with_reducible refine XRes_id ?_)) | (with_reducible refine XSK ?_)) | ((with_reducible refine XRes_nil ?_); refine hK _ ?_; clear hK K) | ((with_reducible refine AX_reg0 fun K hK => ?_); simp only [go_sem]) | (first | (first | refine XTL (by rfl) hCk ?_ | refine XTL (by rfl) hG ?_ | refine XTL (by rfl) hA ?_))))
        refine xs_set (P := AX _ _ _ _) 1 57 _ ([[nVar n m 3 0 init]].map rowA) rfl rfl ?_
        simp only [List.set_cons_succ, List.set_cons_zero]
        refine AX_ren [1] [29] ?fr2 [some ⟨57, [[nVar n m 3 0 init]].map rowA⟩] (by decide) (by decide) (by (simp (disch := omega) only [go_sem, lint, rows_rn, rows_id, rows_one])) (by (simp (disch := omega) only [go_sem, lint, rows_rn, rows_id, rows_one])) (by (simp (disch := omega) only [go_sem, lint, rows_rn, rows_id, rows_one])) ?hfr (fun d2 => ?_)
        case hfr =>
          (simp (disch := omega) only [go_sem, lint, rows_rn, rows_id, rows_one])
          rfl
        simp only [deadS, List.set_cons_succ, List.set_cons_zero]
        (refine AWH (σ := Nat × List (List Int)) [41, 42, 43, 9, 44, 45, 46, 47] (fun (k, R) => [(40, lint k), (5, .osl 0 0 R.length 1)]) (fun (k, R) => [some ⟨57, R.map rowA⟩]) (fun (k, R) => []) (fun (k, R) => k ≤ n + 1 ∧ R = [[nVar n m 3 0 init]] ++ stUp n m k ∧ R.length ≤ 1 + 1025 * k) (fun (k, R) => n + 1 - k) (0, [[nVar n m 3 0 init]]) (by first | exact ⟨Nat.zero_le _, by simp [stUp], Nat.le_refl _⟩) ?_; rintro ⟨k, R⟩ d fr hfr ⟨hk, hR, hRl⟩; simp only [updS, deadS, List.set_cons_succ, List.set_cons_zero, lint] at hfr; subst hfr; (try dsimp only))
        by_cases hlt : k < n + 1
        · have hs3 := hLk k hlt
          have hsl := stP_len n m k hm
          (refine Wk.o ?_; (repeat revert hK K); refine W0ae0a ?_; (repeat intro K hK); refine ⟨?_⟩)
          obtain ⟨R3, hR3⟩ : ∃ R3, R3 = R ++ stP n m m k := ⟨_, rfl⟩
          have hlen : R3.length = R.length + (stP n m m k).length := by rw [hR3, List.length_append]
          refine xs_set (P := WhX _ _ _ _ _ _ _ _ _) 1 57 _ (R3.map rowA) rfl ?_ ?_
          · rw [hR3, List.map_append]
          simp only [List.set_cons_succ, List.set_cons_zero]
          exact whx_ren [1] (k + 1, R3) ⟨by omega, by rw [hR3, hR, stUp_succ, List.append_assoc], by show R3.length ≤ _; omega⟩ (by (first | omega | (dsimp only; omega) | (simp only; omega))) rfl (by decide) (by decide) (by (simp (disch := omega) only [go_sem, lint, rows_rn, rows_id, rows_one])) (by (simp (disch := omega) only [go_sem, lint, rows_rn, rows_id, rows_one])) (by (simp (disch := omega) only [go_sem, lint, rows_rn, rows_id, rows_one])) (fun d => by simp (disch := omega) only [go_sem, lint, rows_rn, rows_id, rows_one, hlen])
        · obtain rfl : k = n + 1 := by omega
          (refine Wk.o ?_; (repeat revert hK K); refine W0ae0a ?_; (repeat intro K hK); refine ⟨?_⟩)
          (simp only [bodyX]; refine ⟨_, by simp only [aresults, aresult, XS.as, Tryz.results28, aload, go_sem, Option.bind_some]; rfl, ?_⟩)
          exact ⟨_, snap_rws rfl rfl, by rw [hR]; rfl, trivial⟩
      · rw [show stL n m init = [] by unfold stL; rw [if_neg (fun h => hi2 h.2.2)]]
        (refine SF_of_bodyX (aload tt) (aload_ok tyOK) Tryz.func28 rfl (by kernel_rfl) ?_; simp only [Tryz.ntmps28, List.length_cons, List.length_nil, Nat.reduceAdd, Nat.reduceSub, List.replicate_succ, List.replicate_zero, List.cons_append, List.nil_append])
        (repeat (first | (with_reducible first | refine AX_block ?_ | refine AX_skip ?_ | refine AX_exit ?_ | refine AX_ret ?_ | refine AX_ift ?_ | refine AX_iff ?_ | refine AX_seq_k (fun K hK => ?_) | refine ContX.use (by assumption) ?_) | simp only [thenX, inBlockX, if_true, if_false, reduceCtorEq]))
        ((with_reducible refine AX_reg0 fun K hK => ?_); simp only [go_sem])
        repeat (first | ((with_reducible refine XOP tyOK ?_); simp (disch := omega) only [go_sem , range_rowsU, iInts, iRows, iRows3, iFlat, szG, hs1, hs2, hs3, rows_one, rows_take, atV_len, List.length_nil]; (with_reducible refine XRes_id ?_)) | (with_reducible refine XSK ?_))
        ((with_reducible refine XRes_nil ?_); refine hK _ ?_; clear hK K)
        (repeat (first | (with_reducible first | refine AX_block ?_ | refine AX_skip ?_ | refine AX_exit ?_ | refine AX_ret ?_ | refine AX_ift ?_ | refine AX_iff ?_ | refine AX_seq_k (fun K hK => ?_) | refine ContX.use (by assumption) ?_) | simp only [thenX, inBlockX, if_true, if_false, reduceCtorEq]))
        refine AX_freeze [0] [(2, .iv (.ptr (szG n m) 2))] (fun p hp => ?_) ?_
        · rw [List.mem_singleton.1 hp]; exact frz_sz (by decide) rfl
        simp only [setN, updS, List.set_cons_succ, List.set_cons_zero]
        (refine Wk.o ?_; (repeat revert hK K); refine W0ae0a ?_; (repeat intro K hK); refine ⟨?_⟩)
        (simp only [bodyX]; refine ⟨_, by simp only [aresults, aresult, XS.as, Tryz.results28, aload, go_sem, Option.bind_some]; rfl, ?_⟩)
        exact ⟨_, .iv _ _ (.nil _ _), rfl, trivial⟩
    · rw [show stL n m init = [] by unfold stL; rw [if_neg (fun h => hi h.2.1)]]
      (refine SF_of_bodyX (aload tt) (aload_ok tyOK) Tryz.func28 rfl (by kernel_rfl) ?_; simp only [Tryz.ntmps28, List.length_cons, List.length_nil, Nat.reduceAdd, Nat.reduceSub, List.replicate_succ, List.replicate_zero, List.cons_append, List.nil_append])
      (repeat (first | (with_reducible first | refine AX_block ?_ | refine AX_skip ?_ | refine AX_exit ?_ | refine AX_ret ?_ | refine AX_ift ?_ | refine AX_iff ?_ | refine AX_seq_k (fun K hK => ?_) | refine ContX.use (by assumption) ?_) | simp only [thenX, inBlockX, if_true, if_false, reduceCtorEq]))
      ((with_reducible refine AX_reg0 fun K hK => ?_); simp only [go_sem])
      repeat (first | ((with_reducible refine XOP tyOK ?_); simp (disch := omega) only [go_sem , range_rowsU, iInts, iRows, iRows3, iFlat, szG, hs1, hs2, hs3, rows_one, rows_take, atV_len, List.length_nil]; (with_reducible refine XRes_id ?_)) | (with_reducible refine XSK ?_))
      ((with_reducible refine XRes_nil ?_); refine hK _ ?_; clear hK K)
      (repeat (first | (with_reducible first | refine AX_block ?_ | refine AX_skip ?_ | refine AX_exit ?_ | refine AX_ret ?_ | refine AX_ift ?_ | refine AX_iff ?_ | refine AX_seq_k (fun K hK => ?_) | refine ContX.use (by assumption) ?_) | simp only [thenX, inBlockX, if_true, if_false, reduceCtorEq]))
      refine AX_freeze [0] [(2, .iv (.ptr (szG n m) 2))] (fun p hp => ?_) ?_
      · rw [List.mem_singleton.1 hp]; exact frz_sz (by decide) rfl
      simp only [setN, updS, List.set_cons_succ, List.set_cons_zero]
      (refine Wk.o ?_; (repeat revert hK K); refine W0ae0a ?_; (repeat intro K hK); refine ⟨?_⟩)
      (simp only [bodyX]; refine ⟨_, by simp only [aresults, aresult, XS.as, Tryz.results28, aload, go_sem, Option.bind_some]; rfl, ?_⟩)
      exact ⟨_, .iv _ _ (.nil _ _), rfl, trivial⟩
  · rw [nCheck_no hok] at hCk
    rw [show stL n m init = [] by unfold stL; rw [if_neg (fun h => hok h.1)]]
    (refine SF_of_bodyX (aload tt) (aload_ok tyOK) Tryz.func28 rfl (by kernel_rfl) ?_; simp only [Tryz.ntmps28, List.length_cons, List.length_nil, Nat.reduceAdd, Nat.reduceSub, List.replicate_succ, List.replicate_zero, List.cons_append, List.nil_append])
    (repeat (first | (with_reducible first | refine AX_block ?_ | refine AX_skip ?_ | refine AX_exit ?_ | refine AX_ret ?_ | refine AX_ift ?_ | refine AX_iff ?_ | refine AX_seq_k (fun K hK => ?_) | refine ContX.use (by assumption) ?_) | simp only [thenX, inBlockX, if_true, if_false, reduceCtorEq]))
    ((with_reducible refine AX_reg0 fun K hK => ?_); simp only [go_sem])
    repeat (first | ((with_reducible refine XOP tyOK ?_); simp (disch := omega) only [go_sem , range_rowsU, iInts, iRows, iRows3, iFlat, szG, hs1, hs2, hs3, rows_one, rows_take, atV_len, List.length_nil]; (with_reducible refine XRes_id ?_)) | (with_reducible refine XSK ?_))
    ((with_reducible refine XRes_nil ?_); refine hK _ ?_; clear hK K)
    (repeat (first | (with_reducible first | refine AX_block ?_ | refine AX_skip ?_ | refine AX_exit ?_ | refine AX_ret ?_ | refine AX_ift ?_ | refine AX_iff ?_ | refine AX_seq_k (fun K hK => ?_) | refine ContX.use (by assumption) ?_) | simp only [thenX, inBlockX, if_true, if_false, reduceCtorEq]))
    refine AX_freeze [0] [(2, .iv (.ptr (szG n m) 2))] (fun p hp => ?_) ?_
    · rw [List.mem_singleton.1 hp]; exact frz_sz (by decide) rfl
    simp only [setN, updS, List.set_cons_succ, List.set_cons_zero]
    (refine Wk.o ?_; (repeat revert hK K); refine W0ae0a ?_; (repeat intro K hK); refine ⟨?_⟩)
    (simp only [bodyX]; refine ⟨_, by simp only [aresults, aresult, XS.as, Tryz.results28, aload, go_sem, Option.bind_some]; rfl, ?_⟩)
    exact ⟨_, .iv _ _ (.nil _ _), rfl, trivial⟩
end Go.Proofs.YtcjnikkmjhagmaaGreatDoor
