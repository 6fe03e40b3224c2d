import Derived.Test.YtdeeighpamajaaaMgBB
import Derived.Test.YtdeeighpamajaaaMgAX
import Derived.Test.YtdeeighpamajaaaMgAT
import Derived.Test.YtdeeighpamajaaaMgAW
namespace Go.Proofs.Ytdeeighpamajaaa
open Go.RowKit
set_option linter.unusedVariables false
set_option linter.unusedSimpArgs false


theorem plXs_len (o : Ob) (l : List Op5) (ord : List Int) (inn : List Bool) : (plXs o l ord inn).length ≤ l.length + 1 := by
  unfold plXs; split
  · rw [plRow_len]; exact Nat.le_refl _
  · exact Nat.zero_le _
abbrev mcA (ord : List Int) (inn : List Bool) (row : List Int) : AV := .agg [.iv (iInts ord), .iv (iBools inn), .iv (iInts row)]
end Go.Proofs.Ytdeeighpamajaaa
namespace Go.Proofs.Ytdeeighpamajaaa
open Go.RowKit
set_option linter.unusedVariables false
section
variable {P : Program} {n0 : Nat} {us : List Nat} {H0 : AHeap} {K : List AV → AHeap → Prop} {Hc : AHeap} {al : List Kd} {fr : List AV} {l : List Oper} {args : Array Operand} {tys : Array TypeId} {d : Option Tmp} {ty : TypeId} {pos : String} {after : Array Edge} {g : Option (Nat × Bool)}
theorem ADR_tellF {f : FuncId} (hw : wantedS fr ⟨d, .call { callee := .value (.func f), args := args, argTypes := tys }, ty, pos, after, g⟩ = some true) {x : AV} (hc : PF P f (args.toList.map (AS.ev ⟨fr, Hc⟩)) fun r H' => r = x ∧ H' = []) (hargs : ∀ a ∈ args.toList.map (AS.ev ⟨fr, Hc⟩), Ids 0 a) (hx : ∀ k, x.ren k = x)
    (h : ADR P n0 us H0 K Hc (l, al, putL fr d x)) : ADR P n0 us H0 K Hc (⟨d, .call { callee := .value (.func f), args := args, argTypes := tys }, ty, pos, after, g⟩ :: l, .grow :: al, fr) :=
  fun n hn => ⟨x, Hc ++ [], none, .grow x [] (wanted_iff hn hw) fun H hs hl => does_call (.func f) args tys rfl f [] [] rfl (by
    have e : args.toList.map (AS.ev ⟨fr, H⟩) = args.toList.map (AS.ev ⟨fr, Hc⟩) := List.map_congr_left fun y _ => by cases y <;> rfl
    simpa [e] using PF.tells (H := H) hargs hx hc), by simpa using h n (by show (putL _ _ _).length ≤ n; rw [putL_len]; exact hn)⟩
theorem ADR_tellV {t : Tmp} (hw : wantedS fr ⟨d, .call { callee := .value (.tmp t), args := args, argTypes := tys }, ty, pos, after, g⟩ = some true) {f : FuncId} {first caps : List AV} (hf : fr.getD t uD = .fn f first caps) {x : AV} (hc : PF P f (first ++ args.toList.map (AS.ev ⟨fr, Hc⟩) ++ caps) fun r H' => r = x ∧ H' = []) (hargs : ∀ a ∈ first ++ args.toList.map (AS.ev ⟨fr, Hc⟩) ++ caps, Ids 0 a) (hx : ∀ k, x.ren k = x)
    (h : ADR P n0 us H0 K Hc (l, al, putL fr d x)) : ADR P n0 us H0 K Hc (⟨d, .call { callee := .value (.tmp t), args := args, argTypes := tys }, ty, pos, after, g⟩ :: l, .grow :: al, fr) :=
  fun n hn => ⟨x, Hc ++ [], none, .grow x [] (wanted_iff hn hw) fun H hs hl => does_call (.tmp t) args tys rfl f first caps hf (by
    have e : args.toList.map (AS.ev ⟨fr, H⟩) = args.toList.map (AS.ev ⟨fr, Hc⟩) := List.map_congr_left fun y _ => by cases y <;> rfl
    rw [e]; simpa using PF.tells (H := H) hargs hx hc), by simpa using h n (by show (putL _ _ _).length ≤ n; rw [putL_len]; exact hn)⟩
end
end Go.Proofs.Ytdeeighpamajaaa
namespace Go.Proofs.Ytdeeighpamajaaa
open Go.RowKit
set_option linter.unusedVariables false
set_option linter.unusedSimpArgs false


/-- The first k are told, the others are 0. -/
def half (v : Nat → Int) (n k : Nat) : List Int := (List.range n).map fun i : Nat => if i < k then v i else 0
theorem half_len (v : Nat → Int) (n k : Nat) : (half v n k).length = n := by unfold half; simp
theorem half_zero (v : Nat → Int) (n : Nat) : half v n 0 = List.replicate n 0 := by
  apply List.ext_getElem?
  intro i
  unfold half
  rw [List.getElem?_map, List.getElem?_replicate]
  by_cases hi : i < n
  · rw [List.getElem?_range hi, if_pos hi, Option.map_some, if_neg (by omega)]
  · rw [List.getElem?_eq_none (by simpa using hi), if_neg hi]; rfl
theorem half_set (v : Nat → Int) {n k : Nat} (h : k < n) : (half v n k).set k (v k) = half v n (k + 1) := by
  apply List.ext_getElem?
  intro i
  rw [List.getElem?_set, half_len]
  unfold half
  rw [List.getElem?_map, List.getElem?_map]
  by_cases hi : i < n
  · rw [List.getElem?_range hi, Option.map_some, Option.map_some]
    by_cases hk : k = i
    · subst hk; rw [if_pos rfl, if_pos h, if_pos (by omega)]
    · rw [if_neg hk]
      by_cases h1 : i < k
      · rw [if_pos h1, if_pos (by omega)]
      · rw [if_neg h1, if_neg (by omega)]
  · rw [List.getElem?_eq_none (by simpa using hi)]
    by_cases hk : k = i
    · omega
    · rw [if_neg hk]; rfl
theorem half_full (v : Nat → Int) (n : Nat) : half v n n = (List.range n).map v := by
  unfold half
  exact List.map_congr_left fun i hi => by rw [if_pos (List.mem_range.1 hi)]
def szG (n m : Int) : Nat → IV
  | 0 => .lit (.int .i64 n)
  | _ => .lit (.int .i64 m)
theorem frz_sz {H : AHeap} {ds : List Nat} {o : Nat} {t : TypeId} {n m : Int} (hd : o ∈ ds) (h : H[o]? = some (some ⟨t, [lt (.int .i64 n), lt (.int .i64 m)]⟩)) : FrzV (onlyH ds H) (.optr o 0) (.iv (.ptr (szG n m) 2)) := by
  refine .iv _ _ (.optr o 0 2 _ ⟨t, [lt (.int .i64 n), lt (.int .i64 m)]⟩ (fun j => .iv (szG n m j)) (by decide) (only_mk hd h) (fun j hj => ?_) fun j _ => .iv _)
  rcases j with _ | _ | j
  · rfl
  · rfl
  · omega
set_option maxRecDepth 100000 in
set_option maxHeartbeats 1000000 in
theorem pf_vars (n : Nat) (m : Int) (hn : n ≤ 64) (f : FuncId) (cap : IV) (k a b : Nat → Int) (hcl : ∀ i : Nat, i < n → PF Try.prog f [lt (.int .i64 i), .iv cap] fun r H' => r = .agg [lt (.int .i64 (k i)), lt (.int .i64 (a i)), lt (.int .i64 (b i))] ∧ H' = []) :
    PF Try.prog 57 [szA n m, .fn f [] [.iv cap]] fun r H' => r = .iv (iInts ((List.range n).map fun i => nVar n m (k i) (a i) (b i))) ∧ H' = [] := by
  refine SF.frozen ?_
  have hs1 := trivial
  (refine SF_of_bodyX (aload tt) (aload_ok tyOK) Try.func57 rfl (by kernel_rfl) ?_; simp only [Try.ntmps57, List.length_cons, List.length_nil, Nat.reduceAdd, Nat.reduceSub, List.replicate_succ, List.replicate_zero, List.cons_append, List.nil_append])
  (repeat (first | (first | (with_reducible first | refine AX_block ?_ | refine AX_skip ?_ | refine AX_exit ?_ | refine AX_ret ?_) | ((with_reducible refine AX_if_t ?_ ?_); focus (simp only [go_sem]; done)) | ((with_reducible refine AX_if_f ?_ ?_); focus (simp only [go_sem]; done)) | (with_reducible refine AX_seq_k (fun K hK => ?_)) | ((with_reducible refine ContX.use (by assumption) ?_)) | (simp only [thenX, inBlockX, if_true, if_false, reduceCtorEq])) | (first | ((first | (with_reducible refine XRes_op tyOK ?_ ?_) | ((with_reducible first | refine ADF_op tyOK ?_ ?_ ?_ | refine ADX_op tyOK ?_ ?_ ?_); (focus rfl)) | (with_reducible refine ADR_alloc1 tyOK ?_ ?_) | ((with_reducible refine ADR_free1 tyOK ?_ ?_ ?_); (focus rfl)) | ((with_reducible refine ADR_free0 tyOK ?_ ?_ ?_); (focus rfl)) | ((with_reducible refine ADR_read1 tyOK ?_ ?_ ?_); (focus rfl)) | (with_reducible refine ADR_chg1 tyOK ?_ ?_)); (focus (first | (with_reducible rfl) | ((simp (disch := omega) only [go_sem]); done))); simp (maxSteps := 2000000) (disch := omega) only [go_sem , szG, hs1, rep_lintI, half_len]; (first | (with_reducible refine XRes_id ?_) | (with_reducible refine ADF_id ?_) | (with_reducible refine ADR_id1 ?_) | (with_reducible refine ADX_id ?_))) | ((first | (with_reducible refine XRes_skip ?_ ?_) | (with_reducible refine ADF_skip (b := true) ?_ ?_) | (with_reducible refine ADX_skip ?_ ?_) | ((with_reducible refine ADR_skip1 ?_ ?_ ?_); (focus rfl))); (focus (first | rfl | ((simp (disch := omega) only [go_sem]); done))); (simp only [putL, List.set_cons_succ, List.set_cons_zero]))) | ((first | (with_reducible refine XRes_nil ?_) | (with_reducible refine ADF_nil ?_) | (with_reducible refine ADR_nil ?_) | (with_reducible refine ADX_nil ?_)); (first | refine hK _ ?_ | refine hK _ _ ?_); clear hK K) | ((first | (with_reducible refine AX_reg0 fun K hK => ?_) | (refine AX_drawG1 tyOK (by kernel_rfl) (by rfl) (by kernel_rfl) fun K hK => ?_) | (refine AX_drawT tyOK (by kernel_rfl) (by decide +kernel) fun K hK => ?_) | (refine AX_drawM1 (by kernel_rfl) (by rfl) (by decide +kernel) fun K hK => ?_) | (refine AX_drawA tyOK (by kernel_rfl) (by decide +kernel) fun K hK => ?_)); (first | simp only [go_sem, preN, effOp, runF, alM, mapOp, alD2, kdOf2, Bool.not_false, Bool.not_true, reduceCtorEq] | simp only [go_sem, preN, effOp, runF, alM, mapOp, Bool.not_false, Bool.not_true, reduceCtorEq] | simp only [go_sem, preN, effOp, runF, alD2, kdOf2, Bool.not_false, Bool.not_true, reduceCtorEq] | simp only [go_sem, alD2, kdOf2, Bool.not_false, Bool.not_true, reduceCtorEq] | simp only [go_sem, preN, effOp, runF, Bool.not_false, Bool.not_true, reduceCtorEq] | simp only [go_sem])) | (first | ((refine ADR_tellV (by rfl) rfl hcl ?_ (fun _ => rfl) ?_); (focus exact idsA (by rfl)); (simp only [putL, List.set_cons_succ, List.set_cons_zero])) | ((refine ADR_tellF (by rfl) (pf_nVar _ _ _ _ _) ?_ (fun _ => rfl) ?_); (focus exact idsA (by rfl)); (simp only [putL, List.set_cons_succ, List.set_cons_zero])))))
  rw [← half_zero (fun i => nVar n m (k i) (a i) (b i)) n]
  refine AX_freeze [0] [(2, .iv (.ptr (szG n m) 2))] (fun p hp => ?_) ?_
  · rw [List.mem_singleton.1 hp]; exact frz_sz (by decide) rfl
  simp only [setN, updS, List.set_cons_succ, List.set_cons_zero]
  refine AX_ren [1] [7] ?fr2 [some ⟨3, (half (fun i => nVar n m (k i) (a i) (b i)) n 0).map lint⟩] (by decide) (by decide) (by (simp (maxSteps := 2000000) (disch := omega) only [go_sem, lint])) (by (simp (maxSteps := 2000000) (disch := omega) only [go_sem, lint])) (by (simp (maxSteps := 2000000) (disch := omega) only [go_sem, lint])) ?hfr (fun d2 => ?_)
  case hfr =>
    (simp (maxSteps := 2000000) (disch := omega) only [go_sem, lint])
    rfl
  simp only [deadS, List.set_cons_succ, List.set_cons_zero]
  (refine AX_wh (σ := Nat) [13, 14, 6, 15, 16, 17, 18, 19, 20, 21, 22, 23] (fun i => [(12, lint i)]) (fun i => [some ⟨3, (half (fun i => nVar n m (k i) (a i) (b i)) n i).map lint⟩]) (fun i => []) (fun i => i ≤ n) (fun i => n - i) 0 (fun d => by first | ((simp only [deadS, updS, List.set_cons_succ, List.set_cons_zero, lint, List.length_nil, List.length_cons]); done) | ((simp only [deadS, updS, List.set_cons_succ, List.set_cons_zero, lint, List.length_nil, List.length_cons]); rfl) | rfl) (by first | (with_reducible rfl) | (simp only [hinit]; done) | rfl) (by first | (with_reducible rfl) | rfl) (by first | exact Nat.zero_le _) ?_; rintro i d fr hfr hi; simp only [updS, deadS, List.set_cons_succ, List.set_cons_zero, lint] at hfr; subst hfr; (try dsimp only))
  by_cases hlt : i < n
  · have hcl := hcl i hlt
    have e := half_set (fun i => nVar n m (k i) (a i) (b i)) hlt
    have hl := half_len (fun i => nVar n m (k i) (a i) (b i)) n i
    generalize half (fun i => nVar n m (k i) (a i) (b i)) n i = ys at e hl ⊢
    repeat (first | (first | (with_reducible first | refine AX_block ?_ | refine AX_skip ?_ | refine AX_exit ?_ | refine AX_ret ?_) | ((with_reducible refine AX_if_t ?_ ?_); focus (simp only [go_sem]; done)) | ((with_reducible refine AX_if_f ?_ ?_); focus (simp only [go_sem]; done)) | (with_reducible refine AX_seq_k (fun K hK => ?_)) | ((with_reducible refine ContX.use (by assumption) ?_)) | (simp only [thenX, inBlockX, if_true, if_false, reduceCtorEq])) | (first | ((first | (with_reducible refine XRes_op tyOK ?_ ?_) | ((with_reducible first | refine ADF_op tyOK ?_ ?_ ?_ | refine ADX_op tyOK ?_ ?_ ?_); (focus rfl)) | (with_reducible refine ADR_alloc1 tyOK ?_ ?_) | ((with_reducible refine ADR_free1 tyOK ?_ ?_ ?_); (focus rfl)) | ((with_reducible refine ADR_free0 tyOK ?_ ?_ ?_); (focus rfl)) | ((with_reducible refine ADR_read1 tyOK ?_ ?_ ?_); (focus rfl)) | (with_reducible refine ADR_chg1 tyOK ?_ ?_)); (focus (first | (with_reducible rfl) | ((simp (disch := omega) only [go_sem]); done))); simp (maxSteps := 2000000) (disch := omega) only [go_sem , szG, hs1, rep_lintI, half_len]; (first | (with_reducible refine XRes_id ?_) | (with_reducible refine ADF_id ?_) | (with_reducible refine ADR_id1 ?_) | (with_reducible refine ADX_id ?_))) | ((first | (with_reducible refine XRes_skip ?_ ?_) | (with_reducible refine ADF_skip (b := true) ?_ ?_) | (with_reducible refine ADX_skip ?_ ?_) | ((with_reducible refine ADR_skip1 ?_ ?_ ?_); (focus rfl))); (focus (first | rfl | ((simp (disch := omega) only [go_sem]); done))); (simp only [putL, List.set_cons_succ, List.set_cons_zero]))) | ((first | (with_reducible refine XRes_nil ?_) | (with_reducible refine ADF_nil ?_) | (with_reducible refine ADR_nil ?_) | (with_reducible refine ADX_nil ?_)); (first | refine hK _ ?_ | refine hK _ _ ?_); clear hK K) | ((with_reducible refine AX_reg0 fun K hK => ?_); simp only [go_sem]) | ((refine AX_drawL tyOK (by kernel_rfl) (by decide +kernel) fun K hK => ?_); (simp only [go_sem, alL, kdOfL, kdOf, isApp, List.any_cons, List.any_nil, List.map_cons, List.map_nil, Bool.or_false, Bool.false_or, Bool.or_true, Bool.true_or, reduceCtorEq])) | (first | ((refine ADR_tellV (by rfl) rfl hcl ?_ (fun _ => rfl) ?_); (focus exact idsA (by rfl)); (simp only [putL, List.set_cons_succ, List.set_cons_zero])) | ((refine ADR_tellF (by rfl) (pf_nVar _ _ _ _ _) ?_ (fun _ => rfl) ?_); (focus exact idsA (by rfl)); (simp only [putL, List.set_cons_succ, List.set_cons_zero]))))
    rw [e]
    exact whx_ren [0] (i + 1) (show i + 1 ≤ n by omega) (by (first | omega | (dsimp only; omega) | (simp only; omega))) rfl (by decide) (by decide) (by (simp (maxSteps := 2000000) (disch := omega) only [go_sem, lint])) (by (simp (maxSteps := 2000000) (disch := omega) only [go_sem, lint])) (by (simp (maxSteps := 2000000) (disch := omega) only [go_sem, lint])) (fun d => by (simp (maxSteps := 2000000) (disch := omega) only [go_sem, lint]))
  · obtain rfl : i = n := by omega
    (repeat (first | (first | (with_reducible first | refine AX_block ?_ | refine AX_skip ?_ | refine AX_exit ?_ | refine AX_ret ?_) | ((with_reducible refine AX_if_t ?_ ?_); focus (simp only [go_sem]; done)) | ((with_reducible refine AX_if_f ?_ ?_); focus (simp only [go_sem]; done)) | (with_reducible refine AX_seq_k (fun K hK => ?_)) | ((with_reducible refine ContX.use (by assumption) ?_)) | (simp only [thenX, inBlockX, if_true, if_false, reduceCtorEq])) | (first | ((first | (with_reducible refine XRes_op tyOK ?_ ?_) | ((with_reducible first | refine ADF_op tyOK ?_ ?_ ?_ | refine ADX_op tyOK ?_ ?_ ?_); (focus rfl)) | (with_reducible refine ADR_alloc1 tyOK ?_ ?_) | ((with_reducible refine ADR_free1 tyOK ?_ ?_ ?_); (focus rfl)) | ((with_reducible refine ADR_free0 tyOK ?_ ?_ ?_); (focus rfl)) | ((with_reducible refine ADR_read1 tyOK ?_ ?_ ?_); (focus rfl)) | (with_reducible refine ADR_chg1 tyOK ?_ ?_)); (focus (first | (with_reducible rfl) | ((simp (disch := omega) only [go_sem]); done))); simp (maxSteps := 2000000) (disch := omega) only [go_sem , szG, hs1, rep_lintI, half_len]; (first | (with_reducible refine XRes_id ?_) | (with_reducible refine ADF_id ?_) | (with_reducible refine ADR_id1 ?_) | (with_reducible refine ADX_id ?_))) | ((first | (with_reducible refine XRes_skip ?_ ?_) | (with_reducible refine ADF_skip (b := true) ?_ ?_) | (with_reducible refine ADX_skip ?_ ?_) | ((with_reducible refine ADR_skip1 ?_ ?_ ?_); (focus rfl))); (focus (first | rfl | ((simp (disch := omega) only [go_sem]); done))); (simp only [putL, List.set_cons_succ, List.set_cons_zero]))) | ((first | (with_reducible refine XRes_nil ?_) | (with_reducible refine ADF_nil ?_) | (with_reducible refine ADR_nil ?_) | (with_reducible refine ADX_nil ?_)); (first | refine hK _ ?_ | refine hK _ _ ?_); clear hK K) | ((first | (with_reducible refine AX_reg0 fun K hK => ?_) | (refine AX_drawG1 tyOK (by kernel_rfl) (by rfl) (by kernel_rfl) fun K hK => ?_) | (refine AX_drawT tyOK (by kernel_rfl) (by decide +kernel) fun K hK => ?_) | (refine AX_drawM1 (by kernel_rfl) (by rfl) (by decide +kernel) fun K hK => ?_) | (refine AX_drawA tyOK (by kernel_rfl) (by decide +kernel) fun K hK => ?_)); (first | simp only [go_sem, preN, effOp, runF, alM, mapOp, alD2, kdOf2, Bool.not_false, Bool.not_true, reduceCtorEq] | simp only [go_sem, preN, effOp, runF, alM, mapOp, Bool.not_false, Bool.not_true, reduceCtorEq] | simp only [go_sem, preN, effOp, runF, alD2, kdOf2, Bool.not_false, Bool.not_true, reduceCtorEq] | simp only [go_sem, alD2, kdOf2, Bool.not_false, Bool.not_true, reduceCtorEq] | simp only [go_sem, preN, effOp, runF, Bool.not_false, Bool.not_true, reduceCtorEq] | simp only [go_sem])) | (first | ((refine ADR_tellV (by rfl) rfl hcl ?_ (fun _ => rfl) ?_); (focus exact idsA (by rfl)); (simp only [putL, List.set_cons_succ, List.set_cons_zero])) | ((refine ADR_tellF (by rfl) (pf_nVar _ _ _ _ _) ?_ (fun _ => rfl) ?_); (focus exact idsA (by rfl)); (simp only [putL, List.set_cons_succ, List.set_cons_zero])))))
    (simp only [bodyX]; refine ⟨_, by simp only [aresults, aresult, XS.as, Try.results57, aload, List.getD_cons_succ, List.getD_cons_zero, List.getElem?_cons_succ, List.getElem?_cons_zero, Option.bind_some]; rfl, ?_⟩)
    rw [half_full]
    exact ⟨_, snap_ints rfl (by simp), rfl, trivial⟩
end Go.Proofs.Ytdeeighpamajaaa
