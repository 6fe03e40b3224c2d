import Derived.Test.YtfpmfjmjnmjcdaaMgAZ
import Derived.Test.YtfpmfjmjnmjcdaaMgAY
import Derived.Test.YtfpmfjmjnmjcdaaMgBB
import Derived.Test.YtfpmfjmjnmjcdaaMgAM
import Derived.Test.YtfpmfjmjnmjcdaaMgBA
namespace Go.Proofs.Ytfpmfjmjnmjcdaa
open Go.RowKit
set_option linter.unusedVariables false
set_option linter.unusedSimpArgs false
theorem trV_tv {n : Nat} {L St Of Vl lv rs : List Int} (hT : TrS n L St Of Vl lv rs) (x : Int) : trV n L x = tv L x := by
  unfold trV
  by_cases h : lvar x ≠ 0 ∧ lvar x ≤ n
  · rw [if_pos h]
  · rw [if_neg h]
    unfold tv
    rw [if_neg, if_neg]
    · intro hm; obtain ⟨i, hi, e⟩ := mem_at.1 hm; have := hT.rng i hi; rw [e, lvar_neg] at this; exact h this
    · intro hm; obtain ⟨i, hi, e⟩ := mem_at.1 hm; have := hT.rng i hi; rw [e] at this; exact h this
theorem rPl_zero {E L lv rs St Of Vl : List Int} {n : Nat} (h : EnS E L lv rs) (hT : TrS n L St Of Vl lv rs) : rPl E L.length 0 = -1 := by
  rcases rPl_or h 0 with ⟨h1, _⟩ | ⟨i, hi, h1, _⟩
  · exact h1
  · exact absurd h1 (hT.rng i hi).1
theorem rOf_level2 {E L lv rs St Of Vl : List Int} {n : Nat} (h : EnS E L lv rs) (hT : TrS n L St Of Vl lv rs) (v : Int) : rOf E L.length v 1 = trLevel n L Of v := by
  by_cases hv : v = 0
  · subst hv; unfold rOf trLevel; rw [rPl_zero h hT, if_pos (by omega), if_neg (by omega)]
  · exact rOf_level h hT hv
theorem rOf_reason2 {E L lv rs St Of Vl : List Int} {n : Nat} (h : EnS E L lv rs) (hT : TrS n L St Of Vl lv rs) (v : Int) : rOf E L.length v 2 = trReason n L Of v := by
  by_cases hv : v = 0
  · subst hv; unfold rOf trReason; rw [rPl_zero h hT, if_pos (by omega), if_neg (by omega)]
  · exact rOf_reason h hT hv
theorem rPl_place2 {E L lv rs St Of Vl : List Int} {n : Nat} (h : EnS E L lv rs) (hT : TrS n L St Of Vl lv rs) (v : Int) : rPl E L.length v = trPlace n L Of v := by
  by_cases hv : v = 0
  · subst hv; unfold trPlace; rw [rPl_zero h hT, if_neg (by omega)]
  · exact rPl_place h hT hv
def boxG (n : Int) (x : IV) (d : Int) : Nat → IV
  | 0 => .lit (.int .i64 n)
  | 1 => x
  | _ => .lit (.int .i64 d)
theorem frz_box {H : AHeap} {ds : List Nat} {o : Nat} {t : TypeId} {n d : Int} {x : IV} (hd : o ∈ ds) (h : H[o]? = some (some ⟨t, [lt (.int .i64 n), .iv x, lt (.int .i64 d)]⟩)) : FrzV (onlyH ds H) (.optr o 0) (.iv (.ptr (boxG n x d) 3)) := by
  refine .iv _ _ (.optr o 0 3 _ ⟨t, [lt (.int .i64 n), .iv x, lt (.int .i64 d)]⟩ (fun j => .iv (boxG n x d j)) (by decide) (only_mk hd h) (fun j hj => ?_) fun j _ => .iv _)
  rcases j with _ | _ | _ | j
  · rfl
  · rfl
  · rfl
  · omega
theorem pf_tLitsF {n : Nat} {H : AHeap} {q1 q2 : Nat} {L St Of Vl lv rs : List Int} (hH : TrAt n H q1 q2 L St Of Vl) (hT : TrS n L St Of Vl lv rs) (hLl : L.length ≤ 1000000) : SF Try.prog 14 [.optr 2 0] H fun r H' => r = .iv (iInts L) ∧ H' = H :=
  (pf_tLits hH hT hLl).lit (snap_last L)
set_option maxRecDepth 100000 in
set_option maxHeartbeats 4000000 in
theorem pf_same13 {n : Nat} {L St Of Vl lv rs E : List Int} (hT : TrS n L St Of Vl lv rs) (hE : EnS E L lv rs) (hLl : L.length ≤ 100000) (hSl : St.length ≤ 100000) (v : Int) (hv : 0 ≤ v ∧ v ≤ 9223372036854775807) : SF Try.prog 12 [.optr 2 0, rT n E L.length St.length, lt (.int .i64 v)] [some ⟨73, Of.map lint⟩, some ⟨70, Vl.map l8⟩, some ⟨57, [.osl 3 0 L.length 1, .osl 4 0 St.length 1, .osl 0 0 (n + 1) 3, .osl 1 0 Vl.length 1, lt (.bool true)]⟩, some ⟨3, L.map lint⟩, some ⟨3, St.map lint⟩] fun r H' => r = lt (.bool true) ∧ H' = [some ⟨73, Of.map lint⟩, some ⟨70, Vl.map l8⟩, some ⟨57, [.osl 3 0 L.length 1, .osl 4 0 St.length 1, .osl 0 0 (n + 1) 3, .osl 1 0 Vl.length 1, lt (.bool true)]⟩, some ⟨3, L.map lint⟩, some ⟨3, St.map lint⟩] := by
  have hs1 := trivial; have hs2 := trivial; have hs3 := trivial; have hs4 := trivial; have hs5 := trivial; have hs6 := trivial; have hs7 := trivial; have hs8 := trivial
  have hl6 : L.length ≤ 1000000 := by omega
  have hs6' : St.length ≤ 1000000 := by omega
  have hn := hT.n1
  have hO := pf_r13Of n E L.length St.length v hl6
  have hL := pf_r13Lits n E L.length St.length hl6
  have hP := pf_r13Place n E L.length St.length v hl6
  have hVa := pf_r13Value n E L.length St.length v hl6 (by omega)
  have hVb := pf_r13Value n E L.length St.length (-v) hl6 (by omega)
  have hS := pf_sameInts L L hl6 hl6
  rw [decide_eq_true (rfl : L = L)] at hS
  rw [rOf_level2 hE hT, rOf_reason2 hE hT] at hO
  rw [rLs_eq hE] at hL
  rw [rPl_place2 hE hT] at hP
  rw [rVl_tv hE hT, ← trV_tv hT] at hVa hVb
  unfold rT iFlat at hO hL hP hVa hVb
  unfold iInts at hL hS
  have hs1 : ∀ (a : Int) (x : IV) (b : Int), boxG a x b 0 = .lit (.int .i64 a) := fun _ _ _ => rfl
  have hs2 : ∀ (a : Int) (x : IV) (b : Int), boxG a x b 1 = x := fun _ _ _ => rfl
  have hs3 : ∀ (a : Int) (x : IV) (b : Int), boxG a x b 2 = .lit (.int .i64 b) := fun _ _ _ => rfl
  (refine SF_of_bodyX (aload tt) (aload_ok tyOK) Try.func12 rfl (by kernel_rfl) ?_; simp only [Try.ntmps12, List.length_cons, List.length_nil, Nat.reduceAdd, Nat.reduceSub, List.replicate_succ, List.replicate_zero, List.cons_append, List.nil_append])
  unfold rT iFlat
  (repeat (first | (with_reducible first | refine AX_block ?_ | refine AX_skip ?_ | refine AX_exit ?_ | refine AX_ret ?_ | refine AX_ift ?_ | refine AX_iff ?_ | refine AX_seq_k (fun K hK => ?_) | refine ContX.use (by assumption) ?_) | simp only [thenX, inBlockX, if_true, if_false, reduceCtorEq]))
  (with_reducible refine AX_reg0 fun K hK => ?_); simp only [go_sem]
  (repeat (first | (first | ((first | (with_reducible refine XRes_op tyOK ?_ ?_) | ((with_reducible first | refine ADF_op tyOK ?_ ?_ ?_ | refine ADX_op tyOK ?_ ?_ ?_); (focus rfl)) | (with_reducible refine ADR_alloc1 tyOK ?_ ?_) | ((with_reducible refine ADR_free1 tyOK ?_ ?_ ?_); (focus rfl)) | ((with_reducible refine ADR_free0 tyOK ?_ ?_ ?_); (focus rfl)) | ((with_reducible refine ADR_read1 tyOK ?_ ?_ ?_); (focus rfl)) | (with_reducible refine ADR_chg1 tyOK ?_ ?_)); (focus (first | (with_reducible rfl) | ((simp (disch := omega) only [go_sem]); done))); simp (disch := omega) only [go_sem , List.length_set, hs1, hs2, hs3, hs4, hs5, hs6, hs7, Int.toNat_zero, Int.toNat_one, List.length_nil, hs8]; (first | (with_reducible refine XRes_id ?_) | (with_reducible refine ADF_id ?_) | (with_reducible refine ADR_id1 ?_) | (with_reducible refine ADX_id ?_))) | ((first | (with_reducible refine XRes_skip ?_ ?_) | (with_reducible refine ADF_skip (b := true) ?_ ?_) | (with_reducible refine ADX_skip ?_ ?_) | ((with_reducible refine ADR_skip1 ?_ ?_ ?_); (focus rfl))); (focus (first | rfl | ((simp (disch := omega) only [go_sem]); done))); (simp only [putL, List.set_cons_succ, List.set_cons_zero]))) | ((first | (with_reducible refine XRes_nil ?_) | (with_reducible refine ADF_nil ?_) | (with_reducible refine ADR_nil ?_) | (with_reducible refine ADX_nil ?_)); (first | refine hK _ ?_ | refine hK _ _ ?_); clear hK K)))
  (repeat (first | (with_reducible first | refine AX_block ?_ | refine AX_skip ?_ | refine AX_exit ?_ | refine AX_ret ?_ | refine AX_ift ?_ | refine AX_iff ?_ | refine AX_seq_k (fun K hK => ?_) | refine ContX.use (by assumption) ?_) | simp only [thenX, inBlockX, if_true, if_false, reduceCtorEq]))
  refine AX_freeze [5] [(4, .iv (.ptr (boxG n (iFlat E L.length 3) St.length) 3))] (fun p hp => ?_) ?_
  · rw [List.mem_singleton.1 hp]; exact frz_box (by decide) rfl
  simp only [setN, updS, List.set_cons_succ, List.set_cons_zero]
  refine AX_ren [] [] ?fr2 [some ⟨73, Of.map lint⟩, some ⟨70, Vl.map l8⟩, some ⟨57, [.osl 3 0 L.length 1, .osl 4 0 St.length 1, .osl 0 0 (n + 1) 3, .osl 1 0 Vl.length 1, lt (.bool true)]⟩, some ⟨3, L.map lint⟩, some ⟨3, St.map lint⟩] (by decide) (by decide) (by (simp (disch := omega) only [go_sem, lint])) (by (simp (disch := omega) only [go_sem, lint])) (by (simp (disch := omega) only [go_sem, lint])) ?hfr (fun d2 => ?_)
  case hfr => (simp (disch := omega) only [go_sem, lint]); rfl
  simp only [deadS]
  unfold iFlat
  (repeat (first | (first | (with_reducible first | refine AX_block ?_ | refine AX_skip ?_ | refine AX_exit ?_ | refine AX_ret ?_ | refine AX_ift ?_ | refine AX_iff ?_ | refine AX_seq_k (fun K hK => ?_) | refine ContX.use (by assumption) ?_) | simp only [thenX, inBlockX, if_true, if_false, reduceCtorEq]) | (first | ((first | (with_reducible refine XRes_op tyOK ?_ ?_) | ((with_reducible first | refine ADF_op tyOK ?_ ?_ ?_ | refine ADX_op tyOK ?_ ?_ ?_); (focus rfl)) | (with_reducible refine ADR_alloc1 tyOK ?_ ?_) | ((with_reducible refine ADR_free1 tyOK ?_ ?_ ?_); (focus rfl)) | ((with_reducible refine ADR_free0 tyOK ?_ ?_ ?_); (focus rfl)) | ((with_reducible refine ADR_read1 tyOK ?_ ?_ ?_); (focus rfl)) | (with_reducible refine ADR_chg1 tyOK ?_ ?_)); (focus (first | (with_reducible rfl) | ((simp (disch := omega) only [go_sem]); done))); simp (disch := omega) only [go_sem , List.length_set, hs1, hs2, hs3, hs4, hs5, hs6, hs7, Int.toNat_zero, Int.toNat_one, List.length_nil, hs8]; (first | (with_reducible refine XRes_id ?_) | (with_reducible refine ADF_id ?_) | (with_reducible refine ADR_id1 ?_) | (with_reducible refine ADX_id ?_))) | ((first | (with_reducible refine XRes_skip ?_ ?_) | (with_reducible refine ADF_skip (b := true) ?_ ?_) | (with_reducible refine ADX_skip ?_ ?_) | ((with_reducible refine ADR_skip1 ?_ ?_ ?_); (focus rfl))); (focus (first | rfl | ((simp (disch := omega) only [go_sem]); done))); (simp only [putL, List.set_cons_succ, List.set_cons_zero]))) | ((first | (with_reducible refine XRes_nil ?_) | (with_reducible refine ADF_nil ?_) | (with_reducible refine ADR_nil ?_) | (with_reducible refine ADX_nil ?_)); (first | refine hK _ ?_ | refine hK _ _ ?_); clear hK K) | ((first | (with_reducible refine AX_reg0 fun K hK => ?_) | (refine AX_drawG1 tyOK (by kernel_rfl) (by rfl) (by kernel_rfl) fun K hK => ?_) | (refine AX_drawT tyOK (by kernel_rfl) (by decide +kernel) fun K hK => ?_) | (refine AX_drawM1 (by kernel_rfl) (by rfl) (by decide +kernel) fun K hK => ?_) | (refine AX_drawA tyOK (by kernel_rfl) (by decide +kernel) fun K hK => ?_)); (first | simp only [go_sem, preN, effOp, runF, alM, mapOp, alD2, kdOf2, Bool.not_false, Bool.not_true, reduceCtorEq] | simp only [go_sem, preN, effOp, runF, alM, mapOp, Bool.not_false, Bool.not_true, reduceCtorEq] | simp only [go_sem, preN, effOp, runF, alD2, kdOf2, Bool.not_false, Bool.not_true, reduceCtorEq] | simp only [go_sem, alD2, kdOf2, Bool.not_false, Bool.not_true, reduceCtorEq] | simp only [go_sem, preN, effOp, runF, Bool.not_false, Bool.not_true, reduceCtorEq] | simp only [go_sem])) | (first | (first | refine XTL (by rfl) hO ?_ | refine ATL tyOK (by rfl) hO ?_ | refine XTL (by rfl) hL ?_ | refine ATL tyOK (by rfl) hL ?_ | refine XTL (by rfl) hP ?_ | refine ATL tyOK (by rfl) hP ?_ | refine XTL (by rfl) hVa ?_ | refine ATL tyOK (by rfl) hVa ?_ | refine XTL (by rfl) hVb ?_ | refine ATL tyOK (by rfl) hVb ?_ | refine XTL (by rfl) hS ?_ | refine ATL tyOK (by rfl) hS ?_) | ((refine ADF_reads tyOK (by rfl) (by rfl) (fun H2 hs => pf_tLitsF (TrAt.sub (n := n) (q1 := 3) (q2 := 4) (L := L) (St := St) (Of := Of) (Vl := Vl) ⟨rfl, rfl, rfl, rfl, rfl⟩ hs) hT hl6) ?_); (simp only [putL, List.set_cons_succ, List.set_cons_zero])) | ((refine ADF_reads tyOK (by rfl) (by rfl) (fun H2 hs => pf_tDepth (TrAt.sub (n := n) (q1 := 3) (q2 := 4) (L := L) (St := St) (Of := Of) (Vl := Vl) ⟨rfl, rfl, rfl, rfl, rfl⟩ hs) hT hs6') ?_); (simp only [putL, List.set_cons_succ, List.set_cons_zero])) | ((refine ADF_reads tyOK (by rfl) (by rfl) (fun H2 hs => pf_tOpen (TrAt.sub (n := n) (q1 := 3) (q2 := 4) (L := L) (St := St) (Of := Of) (Vl := Vl) ⟨rfl, rfl, rfl, rfl, rfl⟩ hs) hT hl6) ?_); (simp only [putL, List.set_cons_succ, List.set_cons_zero])) | ((refine ADF_reads tyOK (by rfl) (by rfl) (fun H2 hs => pf_tLevel (TrAt.sub (n := n) (q1 := 3) (q2 := 4) (L := L) (St := St) (Of := Of) (Vl := Vl) ⟨rfl, rfl, rfl, rfl, rfl⟩ hs) hT v) ?_); (simp only [putL, List.set_cons_succ, List.set_cons_zero])) | ((refine ADF_reads tyOK (by rfl) (by rfl) (fun H2 hs => pf_tReason (TrAt.sub (n := n) (q1 := 3) (q2 := 4) (L := L) (St := St) (Of := Of) (Vl := Vl) ⟨rfl, rfl, rfl, rfl, rfl⟩ hs) hT v) ?_); (simp only [putL, List.set_cons_succ, List.set_cons_zero])) | ((refine ADF_reads tyOK (by rfl) (by rfl) (fun H2 hs => pf_tPlace (TrAt.sub (n := n) (q1 := 3) (q2 := 4) (L := L) (St := St) (Of := Of) (Vl := Vl) ⟨rfl, rfl, rfl, rfl, rfl⟩ hs) hT v) ?_); (simp only [putL, List.set_cons_succ, List.set_cons_zero])) | ((refine ADF_reads tyOK (by rfl) (by rfl) (fun H2 hs => pf_tValue (TrAt.sub (n := n) (q1 := 3) (q2 := 4) (L := L) (St := St) (Of := Of) (Vl := Vl) ⟨rfl, rfl, rfl, rfl, rfl⟩ hs) hT v) ?_); (simp only [putL, List.set_cons_succ, List.set_cons_zero])) | ((refine ADF_reads tyOK (by rfl) (by rfl) (fun H2 hs => pf_tValue (TrAt.sub (n := n) (q1 := 3) (q2 := 4) (L := L) (St := St) (Of := Of) (Vl := Vl) ⟨rfl, rfl, rfl, rfl, rfl⟩ hs) hT (-v)) ?_); (simp only [putL, List.set_cons_succ, List.set_cons_zero])))))
  (simp only [bodyX]; refine ⟨_, by simp only [aresults, aresult, XS.as, Try.results12, aload, go_sem, Option.bind_some]; rfl, ?_⟩)
  exact ⟨rfl, by trivial⟩
end Go.Proofs.Ytfpmfjmjnmjcdaa
namespace Go.Proofs.Ytfpmfjmjnmjcdaa
open Go.RowKit
set_option linter.unusedVariables false
set_option linter.unusedSimpArgs false
theorem snap_3 {H : AHeap} {x y z x' y' z' : AV} (h : Snap H x x') (k : Snap H y y') (l : Snap H z z') : Snap H (.tup [x, y, z]) (.tup [x', y', z']) := .tup _ _ rfl fun i a b e1 e2 => by
  match i with
  | 0 => simp at e1 e2; subst e1 e2; exact h
  | 1 => simp at e1 e2; subst e1 e2; exact k
  | 2 => simp at e1 e2; subst e1 e2; exact l
  | i + 3 => simp at e1
theorem Wff40a {A B : Prop} (h9 : B) (w : B → A := by (intro h9; (repeat intro K hK); refine ⟨?_⟩; (repeat (first | (first | (with_reducible first | refine AX_block ?_ | refine AX_skip ?_ | refine AX_exit ?_ | refine AX_ret ?_ | refine AX_ift ?_ | refine AX_iff ?_ | refine AX_seq_k (fun K hK => ?_) | refine ContX.use (by assumption) ?_) | simp only [thenX, inBlockX, if_true, if_false, reduceCtorEq]) | (first | ((first | (with_reducible refine XRes_op tyOK ?_ ?_) | ((with_reducible first | refine ADF_op tyOK ?_ ?_ ?_ | refine ADX_op tyOK ?_ ?_ ?_); (focus rfl)) | (with_reducible refine ADR_alloc1 tyOK ?_ ?_) | ((with_reducible refine ADR_free1 tyOK ?_ ?_ ?_); (focus rfl)) | ((with_reducible refine ADR_free0 tyOK ?_ ?_ ?_); (focus rfl)) | ((with_reducible refine ADR_read1 tyOK ?_ ?_ ?_); (focus rfl)) | (with_reducible refine ADR_chg1 tyOK ?_ ?_)); (focus (first | (with_reducible rfl) | ((simp (disch := omega) only [go_sem]); done))); simp (disch := omega) only [go_sem , List.length_set, iFlat, hs1, hs2, hs3, hs4, hs5, hs6, hs7, Int.toNat_zero, Int.toNat_one, List.length_nil, hs8]; (first | (with_reducible refine XRes_id ?_) | (with_reducible refine ADF_id ?_) | (with_reducible refine ADR_id1 ?_) | (with_reducible refine ADX_id ?_))) | ((first | (with_reducible refine XRes_skip ?_ ?_) | (with_reducible refine ADF_skip (b := true) ?_ ?_) | (with_reducible refine ADX_skip ?_ ?_) | ((with_reducible refine ADR_skip1 ?_ ?_ ?_); (focus rfl))); (focus (first | rfl | ((simp (disch := omega) only [go_sem]); done))); (simp only [putL, List.set_cons_succ, List.set_cons_zero]))) | ((first | (with_reducible refine XRes_nil ?_) | (with_reducible refine ADF_nil ?_) | (with_reducible refine ADR_nil ?_) | (with_reducible refine ADX_nil ?_)); (first | refine hK _ ?_ | refine hK _ _ ?_); clear hK K) | ((first | (with_reducible refine AX_reg0 fun K hK => ?_) | (refine AX_drawG1 tyOK (by kernel_rfl) (by rfl) (by kernel_rfl) fun K hK => ?_) | (refine AX_drawT tyOK (by kernel_rfl) (by decide +kernel) fun K hK => ?_) | (refine AX_drawM1 (by kernel_rfl) (by rfl) (by decide +kernel) fun K hK => ?_) | (refine AX_drawA tyOK (by kernel_rfl) (by decide +kernel) fun K hK => ?_)); (first | simp only [go_sem, preN, effOp, runF, alM, mapOp, alD2, kdOf2, Bool.not_false, Bool.not_true, reduceCtorEq] | simp only [go_sem, preN, effOp, runF, alM, mapOp, Bool.not_false, Bool.not_true, reduceCtorEq] | simp only [go_sem, preN, effOp, runF, alD2, kdOf2, Bool.not_false, Bool.not_true, reduceCtorEq] | simp only [go_sem, alD2, kdOf2, Bool.not_false, Bool.not_true, reduceCtorEq] | simp only [go_sem, preN, effOp, runF, Bool.not_false, Bool.not_true, reduceCtorEq] | simp only [go_sem])) | (first | refine XTL (by rfl) hC ?_ | refine ATL tyOK (by rfl) hC ?_))); refine Wk.o ?_; (repeat revert hK K); exact h9)) : A := w h9
set_option maxRecDepth 100000 in
set_option maxHeartbeats 2000000 in
theorem pf_refDo0 {n : Int} {E E1 : List Int} {m m1 : Nat} {dd d1 e : Int} (k v b : Int) (h0 : k = 0) (hC : PF Try.prog 24 [rT n E m dd, lt (.int .i64 v)] fun r H' => r = .tup [rT n E1 m1 d1, lt (.int .i64 e)] ∧ H' = []) : PF Try.prog 9 [rT n E m dd, actA k v b] fun r H' => r = .tup [rT n E1 m1 d1, lt (.int .i64 e), .iv (iInts [])] ∧ H' = [] := by
  refine SF.frozen ?_
  have hs1 := trivial; have hs2 := trivial; have hs3 := trivial; have hs4 := trivial; have hs5 := trivial; have hs6 := trivial; have hs7 := trivial; have hs8 := trivial
  subst h0
  unfold rT iFlat at hC
  (refine SF_of_bodyX (aload tt) (aload_ok tyOK) Try.func9 rfl (by kernel_rfl) ?_; simp only [Try.ntmps9, List.length_cons, List.length_nil, Nat.reduceAdd, Nat.reduceSub, List.replicate_succ, List.replicate_zero, List.cons_append, List.nil_append])
  unfold rT actA iFlat
  (refine Wk.o ?_; (repeat revert hK K); refine Wff40a ?_; (repeat intro K hK); refine ⟨?_⟩)
  (simp only [bodyX]; refine ⟨_, by simp only [aresults, aresult, XS.as, Try.results9, aload, go_sem, Option.bind_some]; rfl, ?_⟩)
  exact ⟨_, snap_3 (snap_rT (.iv _ _ (.iv _))) (.same _ (.iv _)) snap_nil, rfl, trivial⟩
set_option maxRecDepth 100000 in
set_option maxHeartbeats 2000000 in
theorem pf_refDo1 {n : Int} {E E1 : List Int} {m m1 : Nat} {dd d1 e : Int} (k v b : Int) (h0 : k = 1) (hC : PF Try.prog 25 [rT n E m dd, lt (.int .i64 v), lt (.int .i64 b)] fun r H' => r = .tup [rT n E1 m1 d1, lt (.int .i64 e)] ∧ H' = []) : PF Try.prog 9 [rT n E m dd, actA k v b] fun r H' => r = .tup [rT n E1 m1 d1, lt (.int .i64 e), .iv (iInts [])] ∧ H' = [] := by
  refine SF.frozen ?_
  have hs1 := trivial; have hs2 := trivial; have hs3 := trivial; have hs4 := trivial; have hs5 := trivial; have hs6 := trivial; have hs7 := trivial; have hs8 := trivial
  subst h0
  unfold rT iFlat at hC
  (refine SF_of_bodyX (aload tt) (aload_ok tyOK) Try.func9 rfl (by kernel_rfl) ?_; simp only [Try.ntmps9, List.length_cons, List.length_nil, Nat.reduceAdd, Nat.reduceSub, List.replicate_succ, List.replicate_zero, List.cons_append, List.nil_append])
  unfold rT actA iFlat
  (refine Wk.o ?_; (repeat revert hK K); refine Wff40a ?_; (repeat intro K hK); refine ⟨?_⟩)
  (simp only [bodyX]; refine ⟨_, by simp only [aresults, aresult, XS.as, Try.results9, aload, go_sem, Option.bind_some]; rfl, ?_⟩)
  exact ⟨_, snap_3 (snap_rT (.iv _ _ (.iv _))) (.same _ (.iv _)) snap_nil, rfl, trivial⟩
set_option maxRecDepth 100000 in
set_option maxHeartbeats 2000000 in
theorem pf_refDo2 {n : Int} {E E1 : List Int} {m m1 : Nat} {dd d1 : Int} {O : List Int} (k v b : Int) (h0 : k ≠ 0) (h1 : k ≠ 1) (hC : PF Try.prog 26 [rT n E m dd, lt (.int .i64 v)] fun r H' => r = .tup [rT n E1 m1 d1, .iv (iInts O)] ∧ H' = []) : PF Try.prog 9 [rT n E m dd, actA k v b] fun r H' => r = .tup [rT n E1 m1 d1, lt (.int .i64 0), .iv (iInts O)] ∧ H' = [] := by
  refine SF.frozen ?_
  have hs1 := trivial; have hs2 := trivial; have hs3 := trivial; have hs4 := trivial; have hs5 := trivial; have hs6 := trivial; have hs7 := trivial; have hs8 := trivial
  have hs1 := h0; have hs2 := h1
  unfold rT iFlat iInts at hC
  (refine SF_of_bodyX (aload tt) (aload_ok tyOK) Try.func9 rfl (by kernel_rfl) ?_; simp only [Try.ntmps9, List.length_cons, List.length_nil, Nat.reduceAdd, Nat.reduceSub, List.replicate_succ, List.replicate_zero, List.cons_append, List.nil_append])
  unfold rT actA iFlat
  (refine Wk.o ?_; (repeat revert hK K); refine Wff40a ?_; (repeat intro K hK); refine ⟨?_⟩)
  (simp only [bodyX]; refine ⟨_, by simp only [aresults, aresult, XS.as, Try.results9, aload, go_sem, Option.bind_some]; rfl, ?_⟩)
  exact ⟨_, snap_3 (snap_rT (.iv _ _ (.iv _))) (.same _ (.iv _)) (.iv _ _ (.iv _)), rfl, trivial⟩
end Go.Proofs.Ytfpmfjmjnmjcdaa
namespace Go.Proofs.Ytfpmfjmjnmjcdaa
open Go.RowKit
set_option linter.unusedVariables false
set_option linter.unusedVariables false
set_option linter.unusedSimpArgs false
theorem pf_sameX {n : Nat} {L St Of Vl lv rs E : List Int} (F : AHeap) (hT : TrS n L St Of Vl lv rs) (hE : EnS E L lv rs) (hLl : L.length ≤ 100000) (hSl : St.length ≤ 100000) (v : Int) (hv : 0 ≤ v ∧ v ≤ 9223372036854775807) : SF Try.prog 12 [.optr 2 0, rT n E L.length St.length, lt (.int .i64 v)] (hT13 n L St Of Vl ++ F) fun r H' => r = lt (.bool true) ∧ H' = hT13 n L St Of Vl ++ F := by
  refine SF.mono ((pf_same13 hT hE hLl hSl v hv).frame F (by rfl) (by unfold hT13; (simp (disch := omega) only [go_sem, lint]))) ?_
  rintro r H' ⟨r1, H1, hl1, ⟨rfl, rfl⟩, rfl, rfl⟩
  refine ⟨rfl, ?_⟩
  unfold frH hT13
  simp only [List.take_succ_cons, List.take_zero, List.drop_succ_cons, List.drop_zero, List.map_cons, List.map_nil, Option.map_some, Option.map_none, AObj.rn, List.cons_append, List.nil_append, List.append_nil, List.length_cons, List.length_nil, map_rnI, map_rn8, rnL, AV.rn, shN]
  rfl
theorem pf_r13Back (n : Int) (E : List Int) (m : Nat) (dd l : Int) (hm : m ≤ 1000000) : PF Try.prog 26 [rT n E m dd, lt (.int .i64 l)] fun r H' => r = .tup [rT n (bkK E (bkL l : Nat) m) (bkN E (bkL l : Nat) m) (bkD dd (bkL l : Nat)), .iv (iInts (bkO E (bkL l : Nat) m))] ∧ H' = [] := by
  by_cases h : 0 ≤ l
  · rw [show ((bkL l : Nat) : Int) = l by unfold bkL; omega]; exact pf_r13Back0 n E m dd l hm h
  · rw [show ((bkL l : Nat) : Int) = 0 by unfold bkL; omega]; exact pf_r13BackN n E m dd l hm (by omega)
theorem step13u {n : Nat} {L St Of Vl lv rs E : List Int} (hT : TrS n L St Of Vl lv rs) (hE : EnS E L lv rs) (hLl : L.length ≤ 10000) (hSl : St.length ≤ 10000) (k v b : Int) :
    ∃ L1 St1 lv1 rs1 E1 e O, PF Try.prog 9 [rT n E L.length St.length, actA k v b] (fun r H' => r = .tup [rT n E1 L1.length St1.length, lt (.int .i64 e), .iv (iInts O)] ∧ H' = []) ∧
      EnS E1 L1 lv1 rs1 ∧ L1.length ≤ L.length + 1 ∧ St1.length ≤ St.length + 1 ∧ O.length ≤ 10000 ∧
      SF Try.prog 8 [.optr 2 0, actA k v b] [some ⟨73, Of.map lint⟩, some ⟨70, Vl.map l8⟩, some ⟨57, [.osl 3 0 L.length 1, .osl 4 0 St.length 1, .osl 0 0 (n + 1) 3, .osl 1 0 Vl.length 1, lt (.bool true)]⟩, some ⟨3, L.map lint⟩, some ⟨3, St.map lint⟩] fun r H' => ∃ Of1 Vl1, TrS n L1 St1 Of1 Vl1 lv1 rs1 ∧ ((r = .tup [lt (.int .i64 e), lt (.slice none 0 0)] ∧ O = [] ∧ (H' = hT13 n L1 St1 Of1 Vl1 ∨ (∃ a b, H' = hD13 n L1 St1 Of1 Vl1 a b) ∨ (∃ b, H' = hI13 n L1 St1 Of1 Vl1 b) ∨ H' = hT13 n L1 St1 Of1 Vl1 ++ [some ⟨24, [.optr 2 0]⟩])) ∨ (r = .tup [lt (.int .i64 e), .osl 6 0 O.length 1] ∧ H' = hB13 n L1 St1 Of1 Vl1 O)) := by
  have hl6 : L.length ≤ 1000000 := by omega
  have hl5 : L.length ≤ 100000 := by omega
  have hs5 : St.length ≤ 100000 := by omega
  have hd : (0 : Int) ≤ (St.length : Int) ∧ (St.length : Int) ≤ 1000000 := by omega
  have hmay := rMay_eq hE hT v
  have hEl := hE.len
  have cL : ∀ y : Int, (L ++ [y]).length = L.length + 1 := fun y => by simp
  have cS : ∀ y : Int, (St ++ [y]).length = St.length + 1 := fun y => by simp
  have cS2 : ∀ y : Int, (((St ++ [y]).length : Nat) : Int) = (St.length : Int) + 1 := fun y => by simp
  by_cases h0 : k = 0
  · subst h0
    by_cases hm : mayE n L v = 0
    · refine ⟨L ++ [v], St ++ [(L.length : Int)], lv ++ [((St.length + 1 : Nat) : Int)], rs ++ [-1], E ++ [v, (St.length : Int) + 1, -1], 0, [], ?_, ?_, by rw [cL]; omega, by rw [cS]; omega, by simp, ?_⟩
      · rw [cL, cS2]
        exact pf_refDo0 0 v b rfl (pf_r13Decide n E L.length St.length v hl6 hEl hd (by rw [hmay, hm]))
      · have := en_put hE hT.l1 hT.l2 v ((St.length + 1 : Nat) : Int) (-1)
        rwa [Int.natCast_add] at this
      · refine SF.mono (pf_do0 v b (pf_DecideYes hT hl5 hs5 v hm)) ?_
        rintro r H' ⟨rfl, Of1, Vl1, a, c, rfl, hT1⟩
        exact ⟨Of1, Vl1, hT1, .inl ⟨rfl, rfl, .inr (.inl ⟨a, c, rfl⟩)⟩⟩
    · refine ⟨L, St, lv, rs, E, mayE n L v, [], ?_, hE, by omega, by omega, by simp, ?_⟩
      · have := pf_r13DecideNo n E L.length St.length v hl6 (by rw [hmay]; exact hm)
        rw [hmay] at this
        exact pf_refDo0 0 v b rfl this
      · refine SF.mono (pf_do0 v b (pf_DecideNo hT hl5 hs5 v hm)) ?_
        rintro r H' ⟨rfl, rfl⟩
        exact ⟨Of, Vl, hT, .inl ⟨rfl, rfl, .inl (rfl)⟩⟩
  by_cases h1 : k = 1
  · subst h1
    by_cases hm : impE n L v b = 0
    · obtain ⟨hm1, hm2⟩ := impE_ok hm
      refine ⟨L ++ [v], St, lv ++ [(St.length : Int)], rs ++ [b], E ++ [v, (St.length : Int), b], 0, [], ?_, en_put hE hT.l1 hT.l2 v _ b, by rw [cL]; omega, by omega, by simp, ?_⟩
      · rw [cL]
        exact pf_refDo1 1 v b rfl (pf_r13Imply n E L.length St.length v b hl6 hEl hd (by rw [hmay, hm1]) hm2)
      · refine SF.mono (pf_do1 v b (pf_ImplyYes hT hl5 hs5 v b hm)) ?_
        rintro r H' ⟨rfl, Of1, Vl1, c, rfl, hT1⟩
        exact ⟨Of1, Vl1, hT1, .inl ⟨rfl, rfl, .inr (.inr (.inl ⟨c, rfl⟩))⟩⟩
    · refine ⟨L, St, lv, rs, E, impE n L v b, [], ?_, hE, by omega, by omega, by simp, ?_⟩
      · unfold impE at hm ⊢
        by_cases hm1 : mayE n L v = 0
        · rw [if_pos hm1] at hm ⊢
          by_cases hb : b < 0
          · rw [if_pos hb]
            exact pf_refDo1 1 v b rfl (pf_r13ImplyArg n E L.length St.length v b hl6 (by rw [hmay, hm1]) hb)
          · rw [if_neg hb] at hm; exact absurd rfl hm
        · rw [if_neg hm1]
          have := pf_r13ImplyNo n E L.length St.length v b hl6 (by rw [hmay]; exact hm1)
          rw [hmay] at this
          exact pf_refDo1 1 v b rfl this
      · refine SF.mono (pf_do1 v b (pf_ImplyNo hT hl5 hs5 v b hm)) ?_
        rintro r H' ⟨rfl, rfl⟩
        exact ⟨Of, Vl, hT, .inl ⟨rfl, rfl, .inl (rfl)⟩⟩
  · have hRB := pf_r13Back n E L.length St.length v hl6
    by_cases hb : St.length ≤ bkL v
    · obtain ⟨e1, e2, e3, e4⟩ := bk_no hE hT (l := (bkL v : Nat)) (by omega)
      rw [e1, e2, e3, e4] at hRB
      refine ⟨L, St, lv, rs, E, 0, [], pf_refDo2 k v b h0 h1 hRB, hE, by omega, by omega, by simp, ?_⟩
      refine SF.mono (pf_do2 k v b h0 h1 (pf_BackNo hT hl5 hs5 v hb)) ?_
      rintro r H' ⟨y, rfl, rfl, rfl⟩
      exact ⟨Of, Vl, hT, .inl ⟨rfl, rfl, .inr (.inr (.inr (rfl)))⟩⟩
    · obtain ⟨k0, hk0⟩ : ∃ k0 : Nat, St.getD (bkL v) 0 = (k0 : Int) := ⟨(St.getD (bkL v) 0).toNat, by have := hT.stb _ (show bkL v < St.length by omega); omega⟩
      have hkb := hT.stb _ (show bkL v < St.length by omega)
      have hkl : k0 ≤ L.length := by omega
      obtain ⟨e1, e2, e3, e4⟩ := bk_yes hE hT (l := bkL v) (by omega) hk0
      rw [e1, e2, e3, e4] at hRB
      have c1 : (L.take k0).length = k0 := by rw [List.length_take]; omega
      have c2 : (St.take (bkL v)).length = bkL v := by rw [List.length_take]; omega
      refine ⟨L.take k0, St.take (bkL v), lv.take k0, rs.take k0, E.take (k0 * 3), 0, (L.drop k0).reverse, by rw [c1, c2]; exact pf_refDo2 k v b h0 h1 hRB, en_take hE hkl, by rw [c1]; omega, by rw [c2]; omega, by rw [List.length_reverse, List.length_drop]; omega, ?_⟩
      refine SF.mono (pf_do2 k v b h0 h1 (pf_BackY hT hl5 hs5 v (by omega))) ?_
      rintro r H' ⟨y, rfl, k1, V, hk1, hk2, rfl, rfl, hT1⟩
      obtain rfl : k1 = k0 := by omega
      exact ⟨Of, V, hT1, .inr ⟨rfl, rfl⟩⟩
theorem step13 {n : Nat} {L St Of Vl lv rs E : List Int} (hT : TrS n L St Of Vl lv rs) (hE : EnS E L lv rs) (hLl : L.length ≤ 10000) (hSl : St.length ≤ 10000) (k v b : Int) (x : Option AObj) :
    ∃ L1 St1 lv1 rs1 E1 e O, PF Try.prog 9 [rT n E L.length St.length, actA k v b] (fun r H' => r = .tup [rT n E1 L1.length St1.length, lt (.int .i64 e), .iv (iInts O)] ∧ H' = []) ∧
      EnS E1 L1 lv1 rs1 ∧ L1.length ≤ L.length + 1 ∧ St1.length ≤ St.length + 1 ∧ O.length ≤ 10000 ∧
      SF Try.prog 8 [.optr 2 0, actA k v b] [some ⟨73, Of.map lint⟩, some ⟨70, Vl.map l8⟩, some ⟨57, [.osl 3 0 L.length 1, .osl 4 0 St.length 1, .osl 0 0 (n + 1) 3, .osl 1 0 Vl.length 1, lt (.bool true)]⟩, some ⟨3, L.map lint⟩, some ⟨3, St.map lint⟩, x] fun r H' => ∃ Of1 Vl1, TrS n L1 St1 Of1 Vl1 lv1 rs1 ∧ ((r = .tup [lt (.int .i64 e), lt (.slice none 0 0)] ∧ O = [] ∧ (H' = hT13 n L1 St1 Of1 Vl1 ++ [x] ∨ (∃ a b, H' = hD13x n L1 St1 Of1 Vl1 a b x) ∨ (∃ b, H' = hI13x n L1 St1 Of1 Vl1 b x) ∨ H' = hN13x n L1 St1 Of1 Vl1 x)) ∨ (r = .tup [lt (.int .i64 e), .osl 7 0 O.length 1] ∧ H' = hB13x n L1 St1 Of1 Vl1 O x)) := by
  obtain ⟨L1, St1, lv1, rs1, E1, e, O, h1, h2, h3, h4, h5, h6⟩ := step13u hT hE hLl hSl k v b
  refine ⟨L1, St1, lv1, rs1, E1, e, O, h1, h2, h3, h4, h5, SF.mono (h6.frame [x] (by rfl) (by (simp (disch := omega) only [go_sem, lint]))) ?_⟩
  rintro r H' ⟨r1, H1, hl1, ⟨Of1, Vl1, hT1, hX⟩, rfl, rfl⟩
  refine ⟨Of1, Vl1, hT1, ?_⟩
  rcases hX with ⟨rfl, rfl, rfl | ⟨a, c, rfl⟩ | ⟨c, rfl⟩ | rfl⟩ | ⟨rfl, rfl⟩
  · exact .inl ⟨rfl, rfl, .inl (fr_T13 _ _ _ _ _ _)⟩
  · exact .inl ⟨rfl, rfl, .inr (.inl ⟨a, c, fr_D13 _ _ _ _ _ _ _ _⟩)⟩
  · exact .inl ⟨rfl, rfl, .inr (.inr (.inl ⟨c, fr_I13 _ _ _ _ _ _ _⟩))⟩
  · exact .inl ⟨rfl, rfl, .inr (.inr (.inr (fr_N13 _ _ _ _ _ _)))⟩
  · exact .inr ⟨rfl, fr_B13 _ _ _ _ _ _ _⟩
end Go.Proofs.Ytfpmfjmjnmjcdaa
