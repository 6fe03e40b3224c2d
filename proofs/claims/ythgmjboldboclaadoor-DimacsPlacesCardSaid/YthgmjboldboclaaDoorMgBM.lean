import Derived.Test.YthgmjboldboclaaDoorMgBL
import Derived.Test.YthgmjboldboclaaDoorMgBK
import Derived.Test.YthgmjboldboclaaDoorMgBI
namespace Go.Proofs.YthgmjboldboclaaDoor
open Go.RowKit
set_option linter.unusedVariables false
set_option linter.unusedSimpArgs false
variable {P : Program} {m : Nat} {Q : Exit → XS → Prop} {fr : List AV} {H : AHeap} {M : MS} {tt : TT}
def kdC : Op → Kd
  | .load _ _ => .read
  | .store _ _ _ => .chg
  | .alloc _ | .box _ _ | .buildSlice _ _ _ | .makeSlice _ _ _ => .grow
  | .call c => match c.callee with
    | .builtin .append => .chg
    | .builtin _ => .free
    | _ => .chg
  | _ => .free
def alC (ops : List Oper) : List Kd := ops.map fun o => kdC o.op
theorem AX_drawC (hT : TyOK P tt) (hmx : P.follows .mixedOrders = true) {id : Nat} {ops : List Oper} (hord : ordOK ops.toArray ops.length (alC ops) = true)
    (h : ∀ (K : List AV → AHeap → Prop), (∀ F H', Q .normal ⟨F, H', M⟩ → K F H') → ADR P H.length [] H K H (ops.map (strip (dsts ops)), alC ops, fr)) : AX P m (.region id ops.toArray true) Q ⟨fr, H, M⟩ :=
  AX_drawS hT hmx (alC ops) ops.length 0 hord fun K hK => by
    have e : extH 0 H = H := by simp [extH]
    rw [e, List.take_length]
    exact h K fun F H' hq => hK F H' (by rw [List.drop_length]; exact XRes_nil hq)
variable {n0 : Nat} {us : List Nat} {H0 : AHeap} {K : List AV → AHeap → Prop} {Hc : AHeap} {al : List Kd} {l : List Oper} {args : Array Operand} {tys : Array TypeId} {d : Option Tmp} {ty : TypeId} {pos : String} {after : Array Edge} {g : Option (Nat × Bool)}
theorem ADR_callC (fo : Operand) (hw : wantedS fr ⟨d, .call { callee := .value fo, args := args, argTypes := tys }, ty, pos, after, g⟩ = some true) {f : FuncId} {first caps : List AV} (hf : AS.ev ⟨fr, Hc⟩ fo = .fn f first caps) {x : AV} {H' : AHeap} (hc : SF P f (first ++ args.toList.map (AS.ev ⟨fr, Hc⟩) ++ caps) Hc fun r H1 => r = x ∧ H1 = H') (hl : Hc.length ≤ H'.length)
    (h : ADR P n0 us H0 K H' (l, al, putL fr d x)) : ADR P n0 us H0 K Hc (⟨d, .call { callee := .value fo, args := args, argTypes := tys }, ty, pos, after, g⟩ :: l, .chg :: al, fr) := fun n hn =>
  ⟨x, H', none, .chg x H' (wanted_iff hn hw) hl (does_call fo args tys rfl f first caps hf hc), h n (by show (putL _ _ _).length ≤ n; rw [putL_len]; exact hn)⟩
end Go.Proofs.YthgmjboldboclaaDoor
namespace Go.Proofs.YthgmjboldboclaaDoor
open Go.RowKit Go.Lib
set_option linter.unusedVariables false
set_option linter.unusedSimpArgs false
attribute [go_sem] rnL_tokC idL_tokC tokC_len
def wordE (x l : List UInt8) : Int := if l = x then 0 else 8
theorem W7f21a {A B : Prop} (h9 : B) (w : B → A := by (intro h9; (repeat intro K hK); refine ⟨?_⟩; (repeat (first | (first | (with_reducible first | refine AX_block ?_ | refine AX_skip ?_ | refine AX_exit ?_ | refine AX_ret ?_ | refine AX_ift ?_ | refine AX_iff ?_ | refine AX_seq_k (fun K hK => ?_) | refine ContX.use (by assumption) ?_) | simp only [thenX, inBlockX, if_true, if_false, reduceCtorEq]) | (first | ((first | (with_reducible refine XRes_op tyOK ?_ ?_) | ((with_reducible first | refine ADF_op tyOK ?_ ?_ ?_ | refine ADX_op tyOK ?_ ?_ ?_); (focus rfl)) | (with_reducible refine ADR_alloc1 tyOK ?_ ?_) | ((with_reducible refine ADR_free1 tyOK ?_ ?_ ?_); (focus rfl)) | ((with_reducible refine ADR_free0 tyOK ?_ ?_ ?_); (focus rfl)) | ((with_reducible refine ADR_read1 tyOK ?_ ?_ ?_); (focus rfl)) | (with_reducible refine ADR_chg1 tyOK ?_ ?_)); (focus (first | (with_reducible rfl) | ((simp (disch := omega) only [go_sem]); done))); simp (disch := omega) only [go_sem , hs1, hs2, hs3, hs4, hs5, hs6, Int.toNat_natCast, ba_size, Nat.zero_add]; (first | (with_reducible refine XRes_id ?_) | (with_reducible refine ADF_id ?_) | (with_reducible refine ADR_id1 ?_) | (with_reducible refine ADX_id ?_))) | ((first | (with_reducible refine XRes_skip ?_ ?_) | (with_reducible refine ADF_skip (b := true) ?_ ?_) | (with_reducible refine ADX_skip ?_ ?_) | ((with_reducible refine ADR_skip1 ?_ ?_ ?_); (focus rfl))); (focus (first | rfl | ((simp (disch := omega) only [go_sem]); done))); (simp only [putL, List.set_cons_succ, List.set_cons_zero]))) | ((first | (with_reducible refine XRes_nil ?_) | (with_reducible refine ADF_nil ?_) | (with_reducible refine ADR_nil ?_) | (with_reducible refine ADX_nil ?_)); (first | refine hK _ ?_ | refine hK _ _ ?_); clear hK K) | ((first | (with_reducible refine AX_reg0 fun K hK => ?_) | (refine AX_drawG1 tyOK (by kernel_rfl) (by rfl) (by kernel_rfl) fun K hK => ?_) | (refine AX_drawT tyOK (by kernel_rfl) (by decide +kernel) fun K hK => ?_) | (refine AX_drawM1 (by kernel_rfl) (by rfl) (by decide +kernel) fun K hK => ?_) | (refine AX_drawA tyOK (by kernel_rfl) (by decide +kernel) fun K hK => ?_)); (first | simp only [go_sem, preN, effOp, runF, alM, mapOp, alD2, kdOf2, Bool.not_false, Bool.not_true, reduceCtorEq] | simp only [go_sem, preN, effOp, runF, alM, mapOp, Bool.not_false, Bool.not_true, reduceCtorEq] | simp only [go_sem, preN, effOp, runF, alD2, kdOf2, Bool.not_false, Bool.not_true, reduceCtorEq] | simp only [go_sem, alD2, kdOf2, Bool.not_false, Bool.not_true, reduceCtorEq] | simp only [go_sem, preN, effOp, runF, Bool.not_false, Bool.not_true, reduceCtorEq] | simp only [go_sem])) | (first | ((refine XRes_fn (by rfl) hA ?_); (rintro r H' ⟨rfl, rfl⟩); (simp only [putL, List.set_cons_succ, List.set_cons_zero])) | ((refine XRes_slot (by rfl) rfl hW ?_); (rintro r H' ⟨rfl, rfl⟩); (simp only [putL, List.set_cons_succ, List.set_cons_zero]))))); refine Wk.o ?_; (repeat revert hK K); exact h9)) : A := w h9
set_option maxRecDepth 100000 in
set_option maxHeartbeats 4000000 in
theorem sf_word1 (x l : List UInt8) (A B F C : Option AObj) (X : AHeap) : SF Tryd.prog 42 [lt (.string (ba l)), .optr 4 0] (A :: B :: F :: C :: (some ⟨9, [lt (.string (ba x))]⟩) :: X) fun r H' => r = lt (.int .i64 (wordE x l)) ∧ H' = A :: B :: F :: C :: (some ⟨9, [lt (.string (ba x))]⟩) :: X := by
  have hs1 := trivial; have hs2 := trivial; have hs3 := trivial; have hs4 := trivial; have hs5 := trivial; have hs6 := trivial; have hA := trivial; have hW := trivial
  by_cases h : l = x
  · rw [show wordE x l = 0 from if_pos h]
    subst h
    have hs1 : ((ba l).toList == (ba l).toList) = true := beq_self_eq_true _
    (refine SF_of_bodyX (aload tt) (aload_ok tyOK) Tryd.func42 rfl (by kernel_rfl) ?_; simp only [Tryd.ntmps42, List.length_cons, List.length_nil, Nat.reduceAdd, Nat.reduceSub, List.replicate_succ, List.replicate_zero, List.cons_append, List.nil_append])
    (refine Wk.o ?_; (repeat revert hK K); refine W7f21a ?_; (repeat intro K hK); refine ⟨?_⟩)
    (simp only [bodyX]; refine ⟨_, by simp only [aresults, aresult, XS.as, Tryd.results42, aload, go_sem, Option.bind_some]; rfl, ?_⟩)
    exact ⟨rfl, by first | trivial | rfl⟩
  · rw [show wordE x l = 8 from if_neg h]
    have hs1 : ((ba l).toList == (ba x).toList) = false := by rw [ba_toList, ba_toList]; simpa using h
    (refine SF_of_bodyX (aload tt) (aload_ok tyOK) Tryd.func42 rfl (by kernel_rfl) ?_; simp only [Tryd.ntmps42, List.length_cons, List.length_nil, Nat.reduceAdd, Nat.reduceSub, List.replicate_succ, List.replicate_zero, List.cons_append, List.nil_append])
    (refine Wk.o ?_; (repeat revert hK K); refine W7f21a ?_; (repeat intro K hK); refine ⟨?_⟩)
    (simp only [bodyX]; refine ⟨_, by simp only [aresults, aresult, XS.as, Tryd.results42, aload, go_sem, Option.bind_some]; rfl, ?_⟩)
    exact ⟨rfl, by first | trivial | rfl⟩
set_option maxRecDepth 100000 in
set_option maxHeartbeats 4000000 in
theorem sf_takeBad (T : List Tok3) (k : Nat) (z f w : Int) (hf : f ≠ 0) (g : FuncId) (first caps : List AV) (X : AHeap) : SF Tryd.prog 41 [.optr 0 0, .fn g first caps] ((some ⟨53, [.osl 1 0 T.length 3, lt (.int .i64 k), lt (.int .i64 z), lt (.int .i64 f), lt (.int .i64 w)]⟩) :: (some ⟨47, tokC T⟩) :: X) fun r H' => r = .tup [] ∧ H' = (some ⟨53, [.osl 1 0 T.length 3, lt (.int .i64 k), lt (.int .i64 z), lt (.int .i64 f), lt (.int .i64 w)]⟩) :: (some ⟨47, tokC T⟩) :: X := by
  have hs1 := trivial; have hs2 := trivial; have hs3 := trivial; have hs4 := trivial; have hs5 := trivial; have hs6 := trivial; have hA := trivial; have hW := trivial
  have hs1 : (f == 0) = false := by simpa using hf
  (refine SF_of_bodyX (aload tt) (aload_ok tyOK) Tryd.func41 rfl (by kernel_rfl) ?_; simp only [Tryd.ntmps41, List.length_cons, List.length_nil, Nat.reduceAdd, Nat.reduceSub, List.replicate_succ, List.replicate_zero, List.cons_append, List.nil_append])
  (refine Wk.o ?_; (repeat revert hK K); refine W7f21a ?_; (repeat intro K hK); refine ⟨?_⟩)
  (simp only [bodyX]; refine ⟨_, by simp only [aresults, aresult, XS.as, Tryd.results41, aload, go_sem, Option.bind_some]; rfl, ?_⟩)
  exact ⟨rfl, by first | trivial | rfl⟩
set_option maxRecDepth 100000 in
set_option maxHeartbeats 4000000 in
theorem sf_takeEnd (T : List Tok3) (k : Nat) (z w : Int) (hT : T.length ≤ 1000000) (hk : ¬ k < T.length) (g : FuncId) (first caps : List AV) (X : AHeap) : SF Tryd.prog 41 [.optr 0 0, .fn g first caps] ((some ⟨53, [.osl 1 0 T.length 3, lt (.int .i64 k), lt (.int .i64 z), lt (.int .i64 0), lt (.int .i64 w)]⟩) :: (some ⟨47, tokC T⟩) :: X) fun r H' => r = .tup [] ∧ H' = (some ⟨53, [.osl 1 0 T.length 3, lt (.int .i64 k), lt (.int .i64 z), lt (.int .i64 4), lt (.int .i64 (rdAt T z k))]⟩) :: (some ⟨47, tokC T⟩) :: X := by
  have hs1 := trivial; have hs2 := trivial; have hs3 := trivial; have hs4 := trivial; have hs5 := trivial; have hs6 := trivial; have hA := trivial; have hW := trivial
  have hA := sf_at T k z 0 w X hT
  (refine SF_of_bodyX (aload tt) (aload_ok tyOK) Tryd.func41 rfl (by kernel_rfl) ?_; simp only [Tryd.ntmps41, List.length_cons, List.length_nil, Nat.reduceAdd, Nat.reduceSub, List.replicate_succ, List.replicate_zero, List.cons_append, List.nil_append])
  (refine Wk.o ?_; (repeat revert hK K); refine W7f21a ?_; (repeat intro K hK); refine ⟨?_⟩)
  (simp only [bodyX]; refine ⟨_, by simp only [aresults, aresult, XS.as, Tryd.results41, aload, go_sem, Option.bind_some]; rfl, ?_⟩)
  exact ⟨rfl, by first | trivial | rfl⟩
set_option maxRecDepth 100000 in
set_option maxHeartbeats 4000000 in
theorem sf_takeGo (T : List Tok3) (k : Nat) (z w e : Int) (hT : T.length ≤ 1000000) (hk : k < T.length) (g : FuncId) (first caps : List AV) (X Y : AHeap) (hXY : X.length ≤ Y.length)
    (hWW : SF Tryd.prog g (first ++ [lt (.string (ba (T.getD k tok0).2.2))] ++ caps) ((some ⟨53, [.osl 1 0 T.length 3, lt (.int .i64 k), lt (.int .i64 z), lt (.int .i64 4), lt (.int .i64 (rdAt T z k))]⟩) :: (some ⟨47, tokC T⟩) :: X) fun r H' => r = lt (.int .i64 e) ∧ H' = (some ⟨53, [.osl 1 0 T.length 3, lt (.int .i64 k), lt (.int .i64 z), lt (.int .i64 4), lt (.int .i64 (rdAt T z k))]⟩) :: (some ⟨47, tokC T⟩) :: Y) :
    SF Tryd.prog 41 [.optr 0 0, .fn g first caps] ((some ⟨53, [.osl 1 0 T.length 3, lt (.int .i64 k), lt (.int .i64 z), lt (.int .i64 0), lt (.int .i64 w)]⟩) :: (some ⟨47, tokC T⟩) :: X) fun r H' => r = .tup [] ∧ H' = (some ⟨53, [.osl 1 0 T.length 3, lt (.int .i64 ((k + 1 : Nat) : Int)), lt (.int .i64 z), lt (.int .i64 e), lt (.int .i64 (rdAt T z k))]⟩) :: (some ⟨47, tokC T⟩) :: Y := by
  have hs1 := trivial; have hs2 := trivial; have hs3 := trivial; have hs4 := trivial; have hs5 := trivial; have hs6 := trivial; have hA := trivial; have hW := trivial
  have hA := sf_at T k z 0 w X hT
  have hW0 := hWW
  obtain ⟨g1, g2, g3⟩ := tokC_at hk
  have hs1 := g1; have hs2 := g2; have hs3 := g3
  (refine SF_of_bodyX (aload tt) (aload_ok tyOK) Tryd.func41 rfl (by kernel_rfl) ?_; simp only [Tryd.ntmps41, List.length_cons, List.length_nil, Nat.reduceAdd, Nat.reduceSub, List.replicate_succ, List.replicate_zero, List.cons_append, List.nil_append])
  (repeat (first | (first | (with_reducible first | refine AX_block ?_ | refine AX_skip ?_ | refine AX_exit ?_ | refine AX_ret ?_ | refine AX_ift ?_ | refine AX_iff ?_ | refine AX_seq_k (fun K hK => ?_) | refine ContX.use (by assumption) ?_) | simp only [thenX, inBlockX, if_true, if_false, reduceCtorEq]) | (first | ((first | (with_reducible refine XRes_op tyOK ?_ ?_) | ((with_reducible first | refine ADF_op tyOK ?_ ?_ ?_ | refine ADX_op tyOK ?_ ?_ ?_); (focus rfl)) | (with_reducible refine ADR_alloc1 tyOK ?_ ?_) | ((with_reducible refine ADR_free1 tyOK ?_ ?_ ?_); (focus rfl)) | ((with_reducible refine ADR_free0 tyOK ?_ ?_ ?_); (focus rfl)) | ((with_reducible refine ADR_read1 tyOK ?_ ?_ ?_); (focus rfl)) | (with_reducible refine ADR_chg1 tyOK ?_ ?_)); (focus (first | (with_reducible rfl) | ((simp (disch := omega) only [go_sem]); done))); simp (disch := omega) only [go_sem , hs1, hs2, hs3, hs4, hs5, hs6, Int.toNat_natCast, ba_size, Nat.zero_add]; (first | (with_reducible refine XRes_id ?_) | (with_reducible refine ADF_id ?_) | (with_reducible refine ADR_id1 ?_) | (with_reducible refine ADX_id ?_))) | ((first | (with_reducible refine XRes_skip ?_ ?_) | (with_reducible refine ADF_skip (b := true) ?_ ?_) | (with_reducible refine ADX_skip ?_ ?_) | ((with_reducible refine ADR_skip1 ?_ ?_ ?_); (focus rfl))); (focus (first | rfl | ((simp (disch := omega) only [go_sem]); done))); (simp only [putL, List.set_cons_succ, List.set_cons_zero]))) | ((first | (with_reducible refine XRes_nil ?_) | (with_reducible refine ADF_nil ?_) | (with_reducible refine ADR_nil ?_) | (with_reducible refine ADX_nil ?_)); (first | refine hK _ ?_ | refine hK _ _ ?_); clear hK K) | (first | ((refine XRes_fn (by rfl) hA ?_); (rintro r H' ⟨rfl, rfl⟩); (simp only [putL, List.set_cons_succ, List.set_cons_zero])) | ((refine XRes_slot (by rfl) rfl hW ?_); (rintro r H' ⟨rfl, rfl⟩); (simp only [putL, List.set_cons_succ, List.set_cons_zero]))) | ((refine ADR_callC _ (by rfl) (by rfl) hW0 (by simp only [List.length_cons]; omega) ?_); (simp only [putL, List.set_cons_succ, List.set_cons_zero])) | ((with_reducible refine AX_reg0 fun K hK => ?_); simp only [go_sem]) | ((refine AX_drawC tyOK (by kernel_rfl) (by decide +kernel) fun K hK => ?_); (simp only [go_sem, alC, kdC, List.map_cons, List.map_nil]))))
  (simp only [bodyX]; refine ⟨_, by simp only [aresults, aresult, XS.as, Tryd.results41, aload, go_sem, Option.bind_some]; rfl, ?_⟩)
  exact ⟨rfl, by first | trivial | rfl⟩
end Go.Proofs.YthgmjboldboclaaDoor
namespace Go.Proofs.YthgmjboldboclaaDoor
open Go.RowKit Go.Lib
set_option linter.unusedVariables false
set_option linter.unusedSimpArgs false
theorem Wf567a {A B : Prop} (h9 : B) (w : B → A := by (intro h9; (repeat intro K hK); refine ⟨?_⟩; (repeat (first | (first | (with_reducible first | refine AX_block ?_ | refine AX_skip ?_ | refine AX_exit ?_ | refine AX_ret ?_ | refine AX_ift ?_ | refine AX_iff ?_ | refine AX_seq_k (fun K hK => ?_) | refine ContX.use (by assumption) ?_) | simp only [thenX, inBlockX, if_true, if_false, reduceCtorEq]) | (first | ((first | (with_reducible refine XRes_op tyOK ?_ ?_) | ((with_reducible first | refine ADF_op tyOK ?_ ?_ ?_ | refine ADX_op tyOK ?_ ?_ ?_); (focus rfl)) | (with_reducible refine ADR_alloc1 tyOK ?_ ?_) | ((with_reducible refine ADR_free1 tyOK ?_ ?_ ?_); (focus rfl)) | ((with_reducible refine ADR_free0 tyOK ?_ ?_ ?_); (focus rfl)) | ((with_reducible refine ADR_read1 tyOK ?_ ?_ ?_); (focus rfl)) | (with_reducible refine ADR_chg1 tyOK ?_ ?_)); (focus (first | (with_reducible rfl) | ((simp (disch := omega) only [go_sem]); done))); simp (disch := omega) only [go_sem , hs1, hs2, hs3, hs4, hs5, hs6, Int.toNat_natCast, ba_size, Nat.zero_add]; (first | (with_reducible refine XRes_id ?_) | (with_reducible refine ADF_id ?_) | (with_reducible refine ADR_id1 ?_) | (with_reducible refine ADX_id ?_))) | ((first | (with_reducible refine XRes_skip ?_ ?_) | (with_reducible refine ADF_skip (b := true) ?_ ?_) | (with_reducible refine ADX_skip ?_ ?_) | ((with_reducible refine ADR_skip1 ?_ ?_ ?_); (focus rfl))); (focus (first | rfl | ((simp (disch := omega) only [go_sem]); done))); (simp only [putL, List.set_cons_succ, List.set_cons_zero]))) | ((first | (with_reducible refine XRes_nil ?_) | (with_reducible refine ADF_nil ?_) | (with_reducible refine ADR_nil ?_) | (with_reducible refine ADX_nil ?_)); (first | refine hK _ ?_ | refine hK _ _ ?_); clear hK K) | ((first | (with_reducible refine AX_reg0 fun K hK => ?_) | (refine AX_drawG1 tyOK (by kernel_rfl) (by rfl) (by kernel_rfl) fun K hK => ?_) | (refine AX_drawT tyOK (by kernel_rfl) (by decide +kernel) fun K hK => ?_) | (refine AX_drawM1 (by kernel_rfl) (by rfl) (by decide +kernel) fun K hK => ?_) | (refine AX_drawA tyOK (by kernel_rfl) (by decide +kernel) fun K hK => ?_)); (first | simp only [go_sem, preN, effOp, runF, alM, mapOp, alD2, kdOf2, Bool.not_false, Bool.not_true, reduceCtorEq] | simp only [go_sem, preN, effOp, runF, alM, mapOp, Bool.not_false, Bool.not_true, reduceCtorEq] | simp only [go_sem, preN, effOp, runF, alD2, kdOf2, Bool.not_false, Bool.not_true, reduceCtorEq] | simp only [go_sem, alD2, kdOf2, Bool.not_false, Bool.not_true, reduceCtorEq] | simp only [go_sem, preN, effOp, runF, Bool.not_false, Bool.not_true, reduceCtorEq] | simp only [go_sem])) | (first | (first | refine XTL (by rfl) hN ?_ | refine ATL tyOK (by rfl) hN ?_) | ((refine XRes_fn (by rfl) hA ?_); (rintro r H' ⟨rfl, rfl⟩); (simp only [putL, List.set_cons_succ, List.set_cons_zero]))))); refine Wk.o ?_; (repeat revert hK K); exact h9)) : A := w h9
set_option maxRecDepth 100000 in
set_option maxHeartbeats 4000000 in
theorem sf_word (T : List Tok3) (k : Nat) (z f w : Int) (x : List UInt8) (F C : Option AObj) (hT : T.length ≤ 1000000) : SF Tryd.prog 19 [.optr 0 0, lt (.string (ba x))] [some ⟨53, [.osl 1 0 T.length 3, lt (.int .i64 k), lt (.int .i64 z), lt (.int .i64 f), lt (.int .i64 w)]⟩, some ⟨47, tokC T⟩, F, C] fun r H' => r = .tup [] ∧ H' = [some ⟨53, [.osl 1 0 T.length 3, lt (.int .i64 ((rdTake T z (wordE x) (k, f, w)).1 : Nat)), lt (.int .i64 z), lt (.int .i64 (rdTake T z (wordE x) (k, f, w)).2.1), lt (.int .i64 (rdTake T z (wordE x) (k, f, w)).2.2)]⟩, some ⟨47, tokC T⟩, F, C, some ⟨9, [lt (.string (ba x))]⟩] := by
  have hs1 := trivial; have hs2 := trivial; have hs3 := trivial; have hs4 := trivial; have hs5 := trivial; have hs6 := trivial; have hA := trivial; have hN := trivial
  by_cases hf : f = 0
  · subst hf
    by_cases hk : k < T.length
    · rw [rdTake_go hk]
      have hA := sf_takeGo T k z w (wordE x (T.getD k tok0).2.2) hT hk 42 [] [.optr 4 0] [F, C, some ⟨9, [lt (.string (ba x))]⟩] [F, C, some ⟨9, [lt (.string (ba x))]⟩] (Nat.le_refl _) (sf_word1 x _ _ _ F C [])
      (refine SF_of_bodyX (aload tt) (aload_ok tyOK) Tryd.func19 rfl (by kernel_rfl) ?_; simp only [Tryd.ntmps19, List.length_cons, List.length_nil, Nat.reduceAdd, Nat.reduceSub, List.replicate_succ, List.replicate_zero, List.cons_append, List.nil_append])
      (refine Wk.o ?_; (repeat revert hK K); refine Wf567a ?_; (repeat intro K hK); refine ⟨?_⟩)
      (simp only [bodyX]; refine ⟨_, by simp only [aresults, aresult, XS.as, Tryd.results19, aload, go_sem, Option.bind_some]; rfl, ?_⟩)
      exact ⟨rfl, by first | trivial | rfl⟩
    · rw [rdTake_end hk]
      have hA := sf_takeEnd T k z w hT hk 42 [] [.optr 4 0] [F, C, some ⟨9, [lt (.string (ba x))]⟩]
      (refine SF_of_bodyX (aload tt) (aload_ok tyOK) Tryd.func19 rfl (by kernel_rfl) ?_; simp only [Tryd.ntmps19, List.length_cons, List.length_nil, Nat.reduceAdd, Nat.reduceSub, List.replicate_succ, List.replicate_zero, List.cons_append, List.nil_append])
      (refine Wk.o ?_; (repeat revert hK K); refine Wf567a ?_; (repeat intro K hK); refine ⟨?_⟩)
      (simp only [bodyX]; refine ⟨_, by simp only [aresults, aresult, XS.as, Tryd.results19, aload, go_sem, Option.bind_some]; rfl, ?_⟩)
      exact ⟨rfl, by first | trivial | rfl⟩
  · rw [rdTake_bad hf]
    have hA := sf_takeBad T k z f w hf 42 [] [.optr 4 0] [F, C, some ⟨9, [lt (.string (ba x))]⟩]
    (refine SF_of_bodyX (aload tt) (aload_ok tyOK) Tryd.func19 rfl (by kernel_rfl) ?_; simp only [Tryd.ntmps19, List.length_cons, List.length_nil, Nat.reduceAdd, Nat.reduceSub, List.replicate_succ, List.replicate_zero, List.cons_append, List.nil_append])
    (refine Wk.o ?_; (repeat revert hK K); refine Wf567a ?_; (repeat intro K hK); refine ⟨?_⟩)
    (simp only [bodyX]; refine ⟨_, by simp only [aresults, aresult, XS.as, Tryd.results19, aload, go_sem, Option.bind_some]; rfl, ?_⟩)
    exact ⟨rfl, by first | trivial | rfl⟩
def numE (lo hi : Int) (l : List UInt8) : Int := (numR l lo hi).2
def rdNum (T : List Tok3) (lo hi : Int) (s : Rd) : Int := if s.2.1 = 0 ∧ s.1 < T.length then (numR (T.getD s.1 tok0).2.2 lo hi).1 else 0
theorem rdNum_go {T : List Tok3} {lo hi : Int} {k : Nat} {w : Int} (h : k < T.length) : rdNum T lo hi (k, 0, w) = (numR (T.getD k tok0).2.2 lo hi).1 := if_pos ⟨rfl, h⟩
theorem rdNum_end {T : List Tok3} {lo hi : Int} {k : Nat} {w : Int} (h : ¬ k < T.length) : rdNum T lo hi (k, 0, w) = 0 := if_neg fun e => h e.2
theorem rdNum_bad {T : List Tok3} {lo hi : Int} {k : Nat} {f w : Int} (h : f ≠ 0) : rdNum T lo hi (k, f, w) = 0 := if_neg fun e => h e.1
set_option maxRecDepth 100000 in
set_option maxHeartbeats 4000000 in
theorem sf_num1 (l : List UInt8) (lo hi v : Int) (hl : l.length ≤ 1000000) (A B F C : Option AObj) (X : AHeap) : SF Tryd.prog 43 [lt (.string (ba l)), .optr 4 0, .optr 5 0, .optr 6 0] (A :: B :: F :: C :: (some ⟨3, [lt (.int .i64 lo)]⟩) :: (some ⟨3, [lt (.int .i64 hi)]⟩) :: (some ⟨3, [lt (.int .i64 v)]⟩) :: X) fun r H' => r = lt (.int .i64 (numE lo hi l)) ∧ H' = A :: B :: F :: C :: (some ⟨3, [lt (.int .i64 lo)]⟩) :: (some ⟨3, [lt (.int .i64 hi)]⟩) :: (some ⟨3, [lt (.int .i64 (numR l lo hi).1)]⟩) :: X := by
  have hs1 := trivial; have hs2 := trivial; have hs3 := trivial; have hs4 := trivial; have hs5 := trivial; have hs6 := trivial; have hA := trivial; have hN := trivial
  have hN := pf_Number l lo hi hl
  (refine SF_of_bodyX (aload tt) (aload_ok tyOK) Tryd.func43 rfl (by kernel_rfl) ?_; simp only [Tryd.ntmps43, List.length_cons, List.length_nil, Nat.reduceAdd, Nat.reduceSub, List.replicate_succ, List.replicate_zero, List.cons_append, List.nil_append])
  (refine Wk.o ?_; (repeat revert hK K); refine Wf567a ?_; (repeat intro K hK); refine ⟨?_⟩)
  (simp only [bodyX]; refine ⟨_, by simp only [aresults, aresult, XS.as, Tryd.results43, aload, go_sem, Option.bind_some]; rfl, ?_⟩)
  exact ⟨rfl, by first | trivial | rfl⟩
set_option maxRecDepth 100000 in
set_option maxHeartbeats 4000000 in
theorem sf_number (T : List Tok3) (k : Nat) (z f w lo hi : Int) (F C : Option AObj) (hT : T.length ≤ 1000000) (hL : ∀ j, (T.getD j tok0).2.2.length ≤ 1000000) : SF Tryd.prog 20 [.optr 0 0, lt (.int .i64 lo), lt (.int .i64 hi)] [some ⟨53, [.osl 1 0 T.length 3, lt (.int .i64 k), lt (.int .i64 z), lt (.int .i64 f), lt (.int .i64 w)]⟩, some ⟨47, tokC T⟩, F, C] fun r H' => r = lt (.int .i64 (rdNum T lo hi (k, f, w))) ∧ H' = [some ⟨53, [.osl 1 0 T.length 3, lt (.int .i64 ((rdTake T z (numE lo hi) (k, f, w)).1 : Nat)), lt (.int .i64 z), lt (.int .i64 (rdTake T z (numE lo hi) (k, f, w)).2.1), lt (.int .i64 (rdTake T z (numE lo hi) (k, f, w)).2.2)]⟩, some ⟨47, tokC T⟩, F, C, some ⟨3, [lt (.int .i64 lo)]⟩, some ⟨3, [lt (.int .i64 hi)]⟩, some ⟨3, [lt (.int .i64 (rdNum T lo hi (k, f, w)))]⟩] := by
  have hs1 := trivial; have hs2 := trivial; have hs3 := trivial; have hs4 := trivial; have hs5 := trivial; have hs6 := trivial; have hA := trivial; have hN := trivial
  by_cases hf : f = 0
  · subst hf
    by_cases hk : k < T.length
    · rw [rdTake_go hk, rdNum_go hk]
      have hA := sf_takeGo T k z w (numE lo hi (T.getD k tok0).2.2) hT hk 43 [] [.optr 4 0, .optr 5 0, .optr 6 0] [F, C, some ⟨3, [lt (.int .i64 lo)]⟩, some ⟨3, [lt (.int .i64 hi)]⟩, some ⟨3, [lt (.int .i64 0)]⟩] [F, C, some ⟨3, [lt (.int .i64 lo)]⟩, some ⟨3, [lt (.int .i64 hi)]⟩, some ⟨3, [lt (.int .i64 (numR (T.getD k tok0).2.2 lo hi).1)]⟩] (Nat.le_refl _) (sf_num1 _ lo hi 0 (hL k) _ _ F C [])
      (refine SF_of_bodyX (aload tt) (aload_ok tyOK) Tryd.func20 rfl (by kernel_rfl) ?_; simp only [Tryd.ntmps20, List.length_cons, List.length_nil, Nat.reduceAdd, Nat.reduceSub, List.replicate_succ, List.replicate_zero, List.cons_append, List.nil_append])
      (refine Wk.o ?_; (repeat revert hK K); refine Wf567a ?_; (repeat intro K hK); refine ⟨?_⟩)
      (simp only [bodyX]; refine ⟨_, by simp only [aresults, aresult, XS.as, Tryd.results20, aload, go_sem, Option.bind_some]; rfl, ?_⟩)
      exact ⟨rfl, by first | trivial | rfl⟩
    · rw [rdTake_end hk, rdNum_end hk]
      have hA := sf_takeEnd T k z w hT hk 43 [] [.optr 4 0, .optr 5 0, .optr 6 0] [F, C, some ⟨3, [lt (.int .i64 lo)]⟩, some ⟨3, [lt (.int .i64 hi)]⟩, some ⟨3, [lt (.int .i64 0)]⟩]
      (refine SF_of_bodyX (aload tt) (aload_ok tyOK) Tryd.func20 rfl (by kernel_rfl) ?_; simp only [Tryd.ntmps20, List.length_cons, List.length_nil, Nat.reduceAdd, Nat.reduceSub, List.replicate_succ, List.replicate_zero, List.cons_append, List.nil_append])
      (refine Wk.o ?_; (repeat revert hK K); refine Wf567a ?_; (repeat intro K hK); refine ⟨?_⟩)
      (simp only [bodyX]; refine ⟨_, by simp only [aresults, aresult, XS.as, Tryd.results20, aload, go_sem, Option.bind_some]; rfl, ?_⟩)
      exact ⟨rfl, by first | trivial | rfl⟩
  · rw [rdTake_bad hf, rdNum_bad hf]
    have hA := sf_takeBad T k z f w hf 43 [] [.optr 4 0, .optr 5 0, .optr 6 0] [F, C, some ⟨3, [lt (.int .i64 lo)]⟩, some ⟨3, [lt (.int .i64 hi)]⟩, some ⟨3, [lt (.int .i64 0)]⟩]
    (refine SF_of_bodyX (aload tt) (aload_ok tyOK) Tryd.func20 rfl (by kernel_rfl) ?_; simp only [Tryd.ntmps20, List.length_cons, List.length_nil, Nat.reduceAdd, Nat.reduceSub, List.replicate_succ, List.replicate_zero, List.cons_append, List.nil_append])
    (refine Wk.o ?_; (repeat revert hK K); refine Wf567a ?_; (repeat intro K hK); refine ⟨?_⟩)
    (simp only [bodyX]; refine ⟨_, by simp only [aresults, aresult, XS.as, Tryd.results20, aload, go_sem, Option.bind_some]; rfl, ?_⟩)
    exact ⟨rfl, by first | trivial | rfl⟩
end Go.Proofs.YthgmjboldboclaaDoor
