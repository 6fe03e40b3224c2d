import Derived.Test.YtcjnikkmjhagmaaGreatDoorMgBB
import Derived.Test.YtcjnikkmjhagmaaGreatDoorMgAX
namespace Go.Proofs.YtcjnikkmjhagmaaGreatDoor
open Go.RowKit
set_option linter.unusedVariables false
section
variable {P : Program} {n0 : Nat} {us : List Nat} {H0 : AHeap} {K : List AV → AHeap → Prop} {Hc : AHeap} {al : List Kd} {fr : List AV} {l : List Oper} {args : Array Operand} {tys : Array TypeId} {d : Option Tmp} {ty : TypeId} {pos : String} {after : Array Edge} {g : Option (Nat × Bool)}
theorem ADR_tellF {f : FuncId} (hw : wantedS fr ⟨d, .call { callee := .value (.func f), args := args, argTypes := tys }, ty, pos, after, g⟩ = some true) {x : AV} (hc : PF P f (args.toList.map (AS.ev ⟨fr, Hc⟩)) fun r H' => r = x ∧ H' = []) (hargs : ∀ a ∈ args.toList.map (AS.ev ⟨fr, Hc⟩), Ids 0 a) (hx : ∀ k, x.ren k = x)
    (h : ADR P n0 us H0 K Hc (l, al, putL fr d x)) : ADR P n0 us H0 K Hc (⟨d, .call { callee := .value (.func f), args := args, argTypes := tys }, ty, pos, after, g⟩ :: l, .grow :: al, fr) :=
  fun n hn => ⟨x, Hc ++ [], none, .grow x [] (wanted_iff hn hw) fun H hs hl => does_call (.func f) args tys rfl f [] [] rfl (by
    have e : args.toList.map (AS.ev ⟨fr, H⟩) = args.toList.map (AS.ev ⟨fr, Hc⟩) := List.map_congr_left fun y _ => by cases y <;> rfl
    simpa [e] using PF.tells (H := H) hargs hx hc), by simpa using h n (by show (putL _ _ _).length ≤ n; rw [putL_len]; exact hn)⟩
theorem ADR_tellV {t : Tmp} (hw : wantedS fr ⟨d, .call { callee := .value (.tmp t), args := args, argTypes := tys }, ty, pos, after, g⟩ = some true) {f : FuncId} {first caps : List AV} (hf : fr.getD t uD = .fn f first caps) {x : AV} (hc : PF P f (first ++ args.toList.map (AS.ev ⟨fr, Hc⟩) ++ caps) fun r H' => r = x ∧ H' = []) (hargs : ∀ a ∈ first ++ args.toList.map (AS.ev ⟨fr, Hc⟩) ++ caps, Ids 0 a) (hx : ∀ k, x.ren k = x)
    (h : ADR P n0 us H0 K Hc (l, al, putL fr d x)) : ADR P n0 us H0 K Hc (⟨d, .call { callee := .value (.tmp t), args := args, argTypes := tys }, ty, pos, after, g⟩ :: l, .grow :: al, fr) :=
  fun n hn => ⟨x, Hc ++ [], none, .grow x [] (wanted_iff hn hw) fun H hs hl => does_call (.tmp t) args tys rfl f first caps hf (by
    have e : args.toList.map (AS.ev ⟨fr, H⟩) = args.toList.map (AS.ev ⟨fr, Hc⟩) := List.map_congr_left fun y _ => by cases y <;> rfl
    rw [e]; simpa using PF.tells (H := H) hargs hx hc), by simpa using h n (by show (putL _ _ _).length ≤ n; rw [putL_len]; exact hn)⟩
end
end Go.Proofs.YtcjnikkmjhagmaaGreatDoor
namespace Go.Proofs.YtcjnikkmjhagmaaGreatDoor
open Go.RowKit
set_option linter.unusedVariables false
set_option linter.unusedSimpArgs false
def half (v : Nat → Int) (n k : Nat) : List Int := (List.range n).map fun i : Nat => if i < k then v i else 0
theorem half_len (v : Nat → Int) (n k : Nat) : (half v n k).length = n := by unfold half; simp
theorem half_zero (v : Nat → Int) (n : Nat) : half v n 0 = List.replicate n 0 := by
  apply List.ext_getElem?
  intro i
  unfold half
  rw [List.getElem?_map, List.getElem?_replicate]
  by_cases hi : i < n
  · rw [List.getElem?_range hi, if_pos hi, Option.map_some, if_neg (by omega)]
  · rw [List.getElem?_eq_none (by simpa using hi), if_neg hi]; rfl
theorem half_set (v : Nat → Int) {n k : Nat} (h : k < n) : (half v n k).set k (v k) = half v n (k + 1) := by
  apply List.ext_getElem?
  intro i
  rw [List.getElem?_set, half_len]
  unfold half
  rw [List.getElem?_map, List.getElem?_map]
  by_cases hi : i < n
  · rw [List.getElem?_range hi, Option.map_some, Option.map_some]
    by_cases hk : k = i
    · subst hk; rw [if_pos rfl, if_pos h, if_pos (by omega)]
    · rw [if_neg hk]
      by_cases h1 : i < k
      · rw [if_pos h1, if_pos (by omega)]
      · rw [if_neg h1, if_neg (by omega)]
  · rw [List.getElem?_eq_none (by simpa using hi)]
    by_cases hk : k = i
    · omega
    · rw [if_neg hk]; rfl
theorem half_full (v : Nat → Int) (n : Nat) : half v n n = (List.range n).map v := by
  unfold half
  exact List.map_congr_left fun i hi => by rw [if_pos (List.mem_range.1 hi)]
def szG (n m : Int) : Nat → IV
  | 0 => .lit (.int .i64 n)
  | _ => .lit (.int .i64 m)
theorem frz_sz {H : AHeap} {ds : List Nat} {o : Nat} {t : TypeId} {n m : Int} (hd : o ∈ ds) (h : H[o]? = some (some ⟨t, [lt (.int .i64 n), lt (.int .i64 m)]⟩)) : FrzV (onlyH ds H) (.optr o 0) (.iv (.ptr (szG n m) 2)) := by
  refine .iv _ _ (.optr o 0 2 _ ⟨t, [lt (.int .i64 n), lt (.int .i64 m)]⟩ (fun j => .iv (szG n m j)) (by decide) (only_mk hd h) (fun j hj => ?_) fun j _ => .iv _)
  rcases j with _ | _ | j
  · rfl
  · rfl
  · omega
theorem W7f24a {A B : Prop} (h9 : B) (w : B → A := by (intro h9; (repeat intro K hK); refine ⟨?_⟩; (repeat (first | (first | (with_reducible first | refine AX_block ?_ | refine AX_skip ?_ | refine AX_exit ?_ | refine AX_ret ?_ | refine AX_ift ?_ | refine AX_iff ?_ | refine AX_seq_k (fun K hK => ?_) | refine ContX.use (by assumption) ?_) | simp only [thenX, inBlockX, if_true, if_false, reduceCtorEq]) | (first | ((with_reducible refine XOP tyOK ?_); simp (disch := omega) only [go_sem , szG, hs1, rep_lintI, half_len]; (with_reducible refine XRes_id ?_)) | (with_reducible refine XSK ?_)) | ((with_reducible refine XRes_nil ?_); refine hK _ ?_; clear hK K) | ((with_reducible refine AX_reg0 fun K hK => ?_); simp only [go_sem]) | (first | ((refine ADR_tellV (by rfl) rfl hcl ?_ (fun _ => rfl) ?_); (focus exact idsA (by rfl)); (simp only [putL, List.set_cons_succ, List.set_cons_zero])) | ((refine ADR_tellF (by rfl) (pf_nVar _ _ _ _ _) ?_ (fun _ => rfl) ?_); (focus exact idsA (by rfl)); (simp only [putL, List.set_cons_succ, List.set_cons_zero]))))); refine Wk.o ?_; (repeat revert hK K); exact h9)) : A := w h9
set_option maxRecDepth 100000 in
set_option maxHeartbeats 1000000 in
theorem pf_vars (n : Nat) (m : Int) (hn : n ≤ 64) (f : FuncId) (cap : IV) (k a b : Nat → Int) (hcl : ∀ i : Nat, i < n → PF Tryz.prog f [lt (.int .i64 i), .iv cap] fun r H' => r = .agg [lt (.int .i64 (k i)), lt (.int .i64 (a i)), lt (.int .i64 (b i))] ∧ H' = []) :
    PF Tryz.prog 111 [szA n m, .fn f [] [.iv cap]] fun r H' => r = .iv (iInts ((List.range n).map fun i => nVar n m (k i) (a i) (b i))) ∧ H' = [] := by
  refine SF.frozen ?_
  have hs1 := trivial
  (refine SF_of_bodyX (aload tt) (aload_ok tyOK) Tryz.func111 rfl (by kernel_rfl) ?_; simp only [Tryz.ntmps111, List.length_cons, List.length_nil, Nat.reduceAdd, Nat.reduceSub, List.replicate_succ, List.replicate_zero, List.cons_append, List.nil_append])
  (refine Wk.o ?_; (repeat revert hK K); refine W7f24a ?_; (repeat intro K hK); refine ⟨?_⟩)
  rw [← half_zero (fun i => nVar n m (k i) (a i) (b i)) n]
  refine AX_freeze [0] [(2, .iv (.ptr (szG n m) 2))] (fun p hp => ?_) ?_
  · rw [List.mem_singleton.1 hp]; exact frz_sz (by decide) rfl
  simp only [setN, updS, List.set_cons_succ, List.set_cons_zero]
  refine AX_ren [1] [7] ?fr2 [some ⟨3, (half (fun i => nVar n m (k i) (a i) (b i)) n 0).map lint⟩] (by decide) (by decide) (by (simp (disch := omega) only [go_sem, lint])) (by (simp (disch := omega) only [go_sem, lint])) (by (simp (disch := omega) only [go_sem, lint])) ?hfr (fun d2 => ?_)
  case hfr =>
    (simp (disch := omega) only [go_sem, lint])
    rfl
  simp only [deadS, List.set_cons_succ, List.set_cons_zero]
  (refine AWH (σ := Nat) [13, 14, 6, 15, 16, 17, 18, 19, 20, 21, 22, 23] (fun i => [(12, lint i)]) (fun i => [some ⟨3, (half (fun i => nVar n m (k i) (a i) (b i)) n i).map lint⟩]) (fun i => []) (fun i => i ≤ n) (fun i => n - i) 0 (by first | exact Nat.zero_le _) ?_; rintro i d fr hfr hi; simp only [updS, deadS, List.set_cons_succ, List.set_cons_zero, lint] at hfr; subst hfr; (try dsimp only))
  by_cases hlt : i < n
  · have hcl := hcl i hlt
    have e := half_set (fun i => nVar n m (k i) (a i) (b i)) hlt
    have hl := half_len (fun i => nVar n m (k i) (a i) (b i)) n i
    generalize half (fun i => nVar n m (k i) (a i) (b i)) n i = ys at e hl ⊢
    repeat (first | (first | (with_reducible first | refine AX_block ?_ | refine AX_skip ?_ | refine AX_exit ?_ | refine AX_ret ?_ | refine AX_ift ?_ | refine AX_iff ?_ | refine AX_seq_k (fun K hK => ?_) | refine ContX.use (by assumption) ?_) | simp only [thenX, inBlockX, if_true, if_false, reduceCtorEq]) | (first | ((first | (with_reducible refine XRes_op tyOK ?_ ?_) | ((with_reducible first | refine ADF_op tyOK ?_ ?_ ?_ | refine ADX_op tyOK ?_ ?_ ?_); (focus rfl)) | (with_reducible refine ADR_alloc1 tyOK ?_ ?_) | ((with_reducible refine ADR_free1 tyOK ?_ ?_ ?_); (focus rfl)) | ((with_reducible refine ADR_free0 tyOK ?_ ?_ ?_); (focus rfl)) | ((with_reducible refine ADR_read1 tyOK ?_ ?_ ?_); (focus rfl)) | (with_reducible refine ADR_chg1 tyOK ?_ ?_)); (focus (first | (with_reducible rfl) | ((simp (disch := omega) only [go_sem]); done))); simp (disch := omega) only [go_sem , szG, hs1, rep_lintI, half_len]; (first | (with_reducible refine XRes_id ?_) | (with_reducible refine ADF_id ?_) | (with_reducible refine ADR_id1 ?_) | (with_reducible refine ADX_id ?_))) | ((first | (with_reducible refine XRes_skip ?_ ?_) | (with_reducible refine ADF_skip (b := true) ?_ ?_) | (with_reducible refine ADX_skip ?_ ?_) | ((with_reducible refine ADR_skip1 ?_ ?_ ?_); (focus rfl))); (focus (first | rfl | ((simp (disch := omega) only [go_sem]); done))); (simp only [putL, List.set_cons_succ, List.set_cons_zero]))) | ((first | (with_reducible refine XRes_nil ?_) | (with_reducible refine ADF_nil ?_) | (with_reducible refine ADR_nil ?_) | (with_reducible refine ADX_nil ?_)); (first | refine hK _ ?_ | refine hK _ _ ?_); clear hK K) | ((with_reducible refine AX_reg0 fun K hK => ?_); simp only [go_sem]) | ((refine AX_drawL tyOK (by kernel_rfl) (by decide +kernel) fun K hK => ?_); (simp only [go_sem, alL, kdOfL, kdOf, isApp, List.any_cons, List.any_nil, List.map_cons, List.map_nil, Bool.or_false, Bool.false_or, Bool.or_true, Bool.true_or, reduceCtorEq])) | (first | ((refine ADR_tellV (by rfl) rfl hcl ?_ (fun _ => rfl) ?_); (focus exact idsA (by rfl)); (simp only [putL, List.set_cons_succ, List.set_cons_zero])) | ((refine ADR_tellF (by rfl) (pf_nVar _ _ _ _ _) ?_ (fun _ => rfl) ?_); (focus exact idsA (by rfl)); (simp only [putL, List.set_cons_succ, List.set_cons_zero]))))
    rw [e]
    exact WRN [0] (i + 1) (show i + 1 ≤ n by omega) (by (first | omega | (dsimp only; omega) | (simp only; omega)))
  · obtain rfl : i = n := by omega
    (refine Wk.o ?_; (repeat revert hK K); refine W7f24a ?_; (repeat intro K hK); refine ⟨?_⟩)
    (simp only [bodyX]; refine ⟨_, by simp only [aresults, aresult, XS.as, Tryz.results111, aload, go_sem, Option.bind_some]; rfl, ?_⟩)
    rw [half_full]
    exact ⟨_, snap_ints rfl (by simp), rfl, trivial⟩
end Go.Proofs.YtcjnikkmjhagmaaGreatDoor
namespace Go.Proofs.YtcjnikkmjhagmaaGreatDoor
open Go.RowKit
set_option linter.unusedVariables false
set_option linter.unusedSimpArgs false
def oneG (x : Int) : Nat → IV := fun _ => .lit (.int .i64 x)
theorem frz_one {H : AHeap} {ds : List Nat} {o : Nat} {t : TypeId} {x : Int} (hd : o ∈ ds) (h : H[o]? = some (some ⟨t, [lt (.int .i64 x)]⟩)) : FrzV (onlyH ds H) (.optr o 0) (.iv (.ptr (oneG x) 1)) := by
  refine .iv _ _ (.optr o 0 1 _ ⟨t, [lt (.int .i64 x)]⟩ (fun j => .iv (oneG x j)) (by decide) (only_mk hd h) (fun j hj => ?_) fun j _ => .iv _)
  rcases j with _ | j
  · rfl
  · omega
def colV (n m : Int) (q : Int) (k : Nat) : List Int := (List.range k).map fun i : Nat => nVar n m 1 i q
def rowV (n m : Int) (q : Int) (k : Nat) : List Int := (List.range k).map fun i : Nat => nVar n m 1 q i
theorem W0206a {A B : Prop} (h9 : B) (w : B → A := by (intro h9; (repeat intro K hK); refine ⟨?_⟩; (repeat (first | (first | (with_reducible first | refine AX_block ?_ | refine AX_skip ?_ | refine AX_exit ?_ | refine AX_ret ?_ | refine AX_ift ?_ | refine AX_iff ?_ | refine AX_seq_k (fun K hK => ?_) | refine ContX.use (by assumption) ?_) | simp only [thenX, inBlockX, if_true, if_false, reduceCtorEq]) | (first | ((with_reducible refine XOP tyOK ?_); simp (disch := omega) only [go_sem , oneG, hs1]; (with_reducible refine XRes_id ?_)) | (with_reducible refine XSK ?_)) | ((with_reducible refine XRes_nil ?_); refine hK _ ?_; clear hK K) | ((with_reducible refine AX_reg0 fun K hK => ?_); simp only [go_sem]) | (first | refine XTL (by rfl) hV ?_))); refine Wk.o ?_; (repeat revert hK K); exact h9)) : A := w h9
set_option maxRecDepth 100000 in
set_option maxHeartbeats 1000000 in
theorem pf_ofPlace1 (q i : Int) : PF Tryz.prog 113 [lt (.int .i64 i), .iv (.ptr (oneG q) 1)] fun r H' => r = .agg [lt (.int .i64 1), lt (.int .i64 i), lt (.int .i64 q)] ∧ H' = [] := by
  refine SF.forgetAll ?_
  have hs1 := trivial; have hV := trivial
  (refine SF_of_bodyX (aload tt) (aload_ok tyOK) Tryz.func113 rfl (by kernel_rfl) ?_; simp only [Tryz.ntmps113, List.length_cons, List.length_nil, Nat.reduceAdd, Nat.reduceSub, List.replicate_succ, List.replicate_zero, List.cons_append, List.nil_append])
  (refine Wk.o ?_; (repeat revert hK K); refine W0206a ?_; (repeat intro K hK); refine ⟨?_⟩)
  (simp only [bodyX]; refine ⟨_, by simp only [aresults, aresult, XS.as, Tryz.results113, aload, go_sem, Option.bind_some]; rfl, ?_⟩)
  exact ⟨ids_idB rfl, rfl, trivial⟩
set_option maxRecDepth 100000 in
set_option maxHeartbeats 1000000 in
theorem pf_ofOper1 (q i : Int) : PF Tryz.prog 112 [lt (.int .i64 i), .iv (.ptr (oneG q) 1)] fun r H' => r = .agg [lt (.int .i64 1), lt (.int .i64 q), lt (.int .i64 i)] ∧ H' = [] := by
  refine SF.forgetAll ?_
  have hs1 := trivial; have hV := trivial
  (refine SF_of_bodyX (aload tt) (aload_ok tyOK) Tryz.func112 rfl (by kernel_rfl) ?_; simp only [Tryz.ntmps112, List.length_cons, List.length_nil, Nat.reduceAdd, Nat.reduceSub, List.replicate_succ, List.replicate_zero, List.cons_append, List.nil_append])
  (refine Wk.o ?_; (repeat revert hK K); refine W0206a ?_; (repeat intro K hK); refine ⟨?_⟩)
  (simp only [bodyX]; refine ⟨_, by simp only [aresults, aresult, XS.as, Tryz.results112, aload, go_sem, Option.bind_some]; rfl, ?_⟩)
  exact ⟨ids_idB rfl, rfl, trivial⟩
set_option maxRecDepth 100000 in
set_option maxHeartbeats 1000000 in
theorem pf_ofPlace (n : Nat) (m q : Int) (hn : n ≤ 64) : PF Tryz.prog 71 [szA n m, lt (.int .i64 q)] fun r H' => r = .iv (iInts (colV n m q n)) ∧ H' = [] := by
  refine SF.forgetAll ?_
  have hs1 := trivial
  have hV := pf_vars n m hn 113 (.ptr (oneG q) 1) (fun _ => 1) (fun i => i) (fun _ => q) fun i hi => pf_ofPlace1 q i
  (refine SF_of_bodyX (aload tt) (aload_ok tyOK) Tryz.func71 rfl (by kernel_rfl) ?_; simp only [Tryz.ntmps71, List.length_cons, List.length_nil, Nat.reduceAdd, Nat.reduceSub, List.replicate_succ, List.replicate_zero, List.cons_append, List.nil_append])
  (repeat (first | (with_reducible first | refine AX_block ?_ | refine AX_skip ?_ | refine AX_exit ?_ | refine AX_ret ?_ | refine AX_ift ?_ | refine AX_iff ?_ | refine AX_seq_k (fun K hK => ?_) | refine ContX.use (by assumption) ?_) | simp only [thenX, inBlockX, if_true, if_false, reduceCtorEq]))
  ((with_reducible refine AX_reg0 fun K hK => ?_); simp only [go_sem])
  repeat (first | ((with_reducible refine XOP tyOK ?_); simp (disch := omega) only [go_sem , oneG, hs1]; (with_reducible refine XRes_id ?_)) | (with_reducible refine XSK ?_))
  ((with_reducible refine XRes_nil ?_); refine hK _ ?_; clear hK K)
  (repeat (first | (with_reducible first | refine AX_block ?_ | refine AX_skip ?_ | refine AX_exit ?_ | refine AX_ret ?_ | refine AX_ift ?_ | refine AX_iff ?_ | refine AX_seq_k (fun K hK => ?_) | refine ContX.use (by assumption) ?_) | simp only [thenX, inBlockX, if_true, if_false, reduceCtorEq]))
  refine AX_freeze [1] [(3, .iv (.ptr (oneG q) 1))] (fun p hp => ?_) ?_
  · rw [List.mem_singleton.1 hp]; exact frz_one (by decide) rfl
  simp only [setN, updS, List.set_cons_succ, List.set_cons_zero]
  (refine Wk.o ?_; (repeat revert hK K); refine W0206a ?_; (repeat intro K hK); refine ⟨?_⟩)
  (simp only [bodyX]; refine ⟨_, by simp only [aresults, aresult, XS.as, Tryz.results71, aload, go_sem, Option.bind_some]; rfl, ?_⟩)
  exact ⟨.iv _, rfl, trivial⟩
set_option maxRecDepth 100000 in
set_option maxHeartbeats 1000000 in
theorem pf_ofOper (n : Nat) (m q : Int) (hn : n ≤ 64) : PF Tryz.prog 69 [szA n m, lt (.int .i64 q)] fun r H' => r = .iv (iInts (rowV n m q n)) ∧ H' = [] := by
  refine SF.forgetAll ?_
  have hs1 := trivial
  have hV := pf_vars n m hn 112 (.ptr (oneG q) 1) (fun _ => 1) (fun _ => q) (fun i => i) fun i hi => pf_ofOper1 q i
  (refine SF_of_bodyX (aload tt) (aload_ok tyOK) Tryz.func69 rfl (by kernel_rfl) ?_; simp only [Tryz.ntmps69, List.length_cons, List.length_nil, Nat.reduceAdd, Nat.reduceSub, List.replicate_succ, List.replicate_zero, List.cons_append, List.nil_append])
  (repeat (first | (with_reducible first | refine AX_block ?_ | refine AX_skip ?_ | refine AX_exit ?_ | refine AX_ret ?_ | refine AX_ift ?_ | refine AX_iff ?_ | refine AX_seq_k (fun K hK => ?_) | refine ContX.use (by assumption) ?_) | simp only [thenX, inBlockX, if_true, if_false, reduceCtorEq]))
  ((with_reducible refine AX_reg0 fun K hK => ?_); simp only [go_sem])
  repeat (first | ((with_reducible refine XOP tyOK ?_); simp (disch := omega) only [go_sem , oneG, hs1]; (with_reducible refine XRes_id ?_)) | (with_reducible refine XSK ?_))
  ((with_reducible refine XRes_nil ?_); refine hK _ ?_; clear hK K)
  (repeat (first | (with_reducible first | refine AX_block ?_ | refine AX_skip ?_ | refine AX_exit ?_ | refine AX_ret ?_ | refine AX_ift ?_ | refine AX_iff ?_ | refine AX_seq_k (fun K hK => ?_) | refine ContX.use (by assumption) ?_) | simp only [thenX, inBlockX, if_true, if_false, reduceCtorEq]))
  refine AX_freeze [1] [(3, .iv (.ptr (oneG q) 1))] (fun p hp => ?_) ?_
  · rw [List.mem_singleton.1 hp]; exact frz_one (by decide) rfl
  simp only [setN, updS, List.set_cons_succ, List.set_cons_zero]
  (refine Wk.o ?_; (repeat revert hK K); refine W0206a ?_; (repeat intro K hK); refine ⟨?_⟩)
  (simp only [bodyX]; refine ⟨_, by simp only [aresults, aresult, XS.as, Tryz.results69, aload, go_sem, Option.bind_some]; rfl, ?_⟩)
  exact ⟨.iv _, rfl, trivial⟩
end Go.Proofs.YtcjnikkmjhagmaaGreatDoor
