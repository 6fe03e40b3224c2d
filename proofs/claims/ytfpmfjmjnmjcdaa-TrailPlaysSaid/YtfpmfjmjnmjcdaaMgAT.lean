import Derived.Test.YtfpmfjmjnmjcdaaMgAS
import Derived.Test.YtfpmfjmjnmjcdaaMgAR
import Derived.Test.YtfpmfjmjnmjcdaaMgAM
import Derived.Test.YtfpmfjmjnmjcdaaMgAO
namespace Go.Proofs.Ytfpmfjmjnmjcdaa
open Go.RowKit
set_option linter.unusedVariables false
set_option linter.unusedSimpArgs false
variable {P : Program} {m : Nat} {Q : Exit → XS → Prop} {fr : List AV} {H : AHeap} {M : MS} {tt : TT}
def kdU : Op → Kd
  | .load _ _ => .read
  | .store _ _ _ => .chg
  | .alloc _ | .box _ _ | .buildSlice _ _ _ | .makeSlice _ _ _ => .grow
  | .call c => match c.callee with
    | .builtin .append => .chg
    | .builtin _ => .free
    | _ => .read
  | _ => .free
def alU (ops : List Oper) : List Kd := ops.map fun o => kdU o.op
theorem AX_drawU (hT : TyOK P tt) (hmx : P.follows .mixedOrders = true) {id : Nat} {ops : List Oper} (hord : ordOK ops.toArray ops.length (alU ops) = true)
    (h : ∀ (K : List AV → AHeap → Prop), (∀ F H', Q .normal ⟨F, H', M⟩ → K F H') → ADR P H.length [] H K H (ops.map (strip (dsts ops)), alU ops, fr)) : AX P m (.region id ops.toArray true) Q ⟨fr, H, M⟩ :=
  AX_drawS hT hmx (alU ops) ops.length 0 hord fun K hK => by
    have e : extH 0 H = H := by simp [extH]
    rw [e, List.take_length]
    exact h K fun F H' hq => hK F H' (by rw [List.drop_length]; exact XRes_nil hq)
variable {n0 : Nat} {us : List Nat} {H0 : AHeap} {K : List AV → AHeap → Prop} {Hc : AHeap} {al : List Kd} {l : List Oper} {args : Array Operand} {tys : Array TypeId} {d : Option Tmp} {ty : TypeId} {pos : String} {after : Array Edge} {g : Option (Nat × Bool)}
theorem ADR_tellR {f : FuncId} (hw : wantedS fr ⟨d, .call { callee := .value (.func f), args := args, argTypes := tys }, ty, pos, after, g⟩ = some true) {x : AV} (hc : PF P f (args.toList.map (AS.ev ⟨fr, H0⟩)) fun r H' => r = x ∧ H' = []) (hargs : ∀ a ∈ args.toList.map (AS.ev ⟨fr, H0⟩), Ids 0 a) (hx : ∀ k, x.ren k = x)
    (h : ADR P n0 us H0 K Hc (l, al, putL fr d x)) : ADR P n0 us H0 K Hc (⟨d, .call { callee := .value (.func f), args := args, argTypes := tys }, ty, pos, after, g⟩ :: l, .read :: al, fr) := fun n hn =>
  ⟨x, Hc, none, .pure _ (wanted_iff hn hw) fun H _ => does_call (.func f) args tys rfl f [] [] rfl (by
    have e : args.toList.map (AS.ev ⟨fr, H⟩) = args.toList.map (AS.ev ⟨fr, H0⟩) := List.map_congr_left fun y _ => by cases y <;> rfl
    simpa [e] using PF.tells (H := H) hargs hx hc), h n (by show (putL _ _ _).length ≤ n; rw [putL_len]; exact hn)⟩
end Go.Proofs.Ytfpmfjmjnmjcdaa
namespace Go.Proofs.Ytfpmfjmjnmjcdaa
open Go.RowKit
def l8 (x : Int) : AV := lt (.int .i8 x)
theorem rnL_l8 (r : Nat → Nat) (xs : List Int) : rnL r (xs.map l8) = xs.map l8 := by rw [rnL_map, List.map_map]; rfl
theorem idL_l8 (p : Nat → Bool) (xs : List Int) : idL p (xs.map l8) = true := by rw [idL_all, List.all_map, List.all_eq_true]; exact fun _ _ => rfl
theorem l8_at {xs : List Int} {k : Nat} (h : k < xs.length) : (xs.map l8)[k]? = some (lt (.int .i8 (xs.getD k 0))) := by
  rw [List.getElem?_map, List.getElem?_eq_getElem h, List.getD_eq_getElem?_getD, List.getElem?_eq_getElem h]; rfl
theorem l8_set (xs : List Int) (k : Nat) (v : Int) : (xs.map l8).set k (lt (.int .i8 v)) = (xs.set k v).map l8 := by rw [List.map_set]; rfl
theorem l8_one (xs : List Int) : (xs.map l8).all AV.one = true := by rw [List.all_map, List.all_eq_true]; exact fun _ _ => rfl
attribute [go_sem] rnL_l8 idL_l8 l8_at l8_set l8_one
theorem xor_one (i : Nat) (h : i < 1000000000) : IntKind.i64.wrap ((BitVec.ofInt IntKind.i64.bits (i : Int) ^^^ BitVec.ofInt IntKind.i64.bits 1).toNat : Int) = (if i % 2 = 0 then i + 1 else i - 1 : Nat) := by
  have e1 : (BitVec.ofInt 64 (i : Int)) = BitVec.ofNat 64 i := by simp
  have e2 : (BitVec.ofInt 64 (1 : Int)) = BitVec.ofNat 64 1 := rfl
  show IntKind.i64.wrap ((BitVec.ofInt 64 (i : Int) ^^^ BitVec.ofInt 64 1).toNat : Int) = _
  rw [e1, e2, BitVec.toNat_xor, BitVec.toNat_ofNat, BitVec.toNat_ofNat]
  have e3 : i % 2 ^ 64 = i := Nat.mod_eq_of_lt (by omega)
  have e4 : 1 % 2 ^ 64 = 1 := rfl
  rw [e3, e4]
  have e5 : i ^^^ 1 = if i % 2 = 0 then i + 1 else i - 1 := by
    apply Nat.eq_of_testBit_eq
    intro j
    rw [Nat.testBit_xor]
    split
    · rename_i h2
      rcases j with _ | j
      · have h3 : (i + 1) % 2 = 1 := by omega
        simp [Nat.testBit_zero, h2, h3]
      · have a1 : Nat.testBit 1 (j + 1) = false := by simp [Nat.testBit_succ]
        rw [a1, Bool.xor_false, Nat.testBit_succ, Nat.testBit_succ]
        congr 1; omega
    · rename_i h2
      rcases j with _ | j
      · have h3 : i % 2 = 1 := by omega
        have h4 : (i - 1) % 2 = 0 := by omega
        simp [Nat.testBit_zero, h3, h4]
      · have a1 : Nat.testBit 1 (j + 1) = false := by simp [Nat.testBit_succ]
        rw [a1, Bool.xor_false, Nat.testBit_succ, Nat.testBit_succ]
        congr 1; omega
  rw [e5]
  have e6 : (if i % 2 = 0 then i + 1 else i - 1) ≤ 1000000000 := by split <;> omega
  clear e5
  generalize (if i % 2 = 0 then i + 1 else i - 1) = q at *
  exact wrap_in (x := (q : Int)) (by omega)
end Go.Proofs.Ytfpmfjmjnmjcdaa
namespace Go.Proofs.Ytfpmfjmjnmjcdaa
open Go.RowKit
set_option linter.unusedVariables false
set_option linter.unusedSimpArgs false
theorem W53cda {A B : Prop} (h9 : B) (w : B → A := by (intro h9; (repeat intro K hK); refine ⟨?_⟩; (repeat (first | (first | (with_reducible first | refine AX_block ?_ | refine AX_skip ?_ | refine AX_exit ?_ | refine AX_ret ?_ | refine AX_ift ?_ | refine AX_iff ?_ | refine AX_seq_k (fun K hK => ?_) | refine ContX.use (by assumption) ?_) | simp only [thenX, inBlockX, if_true, if_false, reduceCtorEq]) | (first | ((first | (with_reducible refine XRes_op tyOK ?_ ?_) | ((with_reducible first | refine ADF_op tyOK ?_ ?_ ?_ | refine ADX_op tyOK ?_ ?_ ?_); (focus rfl)) | (with_reducible refine ADR_alloc1 tyOK ?_ ?_) | ((with_reducible refine ADR_free1 tyOK ?_ ?_ ?_); (focus rfl)) | ((with_reducible refine ADR_free0 tyOK ?_ ?_ ?_); (focus rfl)) | ((with_reducible refine ADR_read1 tyOK ?_ ?_ ?_); (focus rfl)) | (with_reducible refine ADR_chg1 tyOK ?_ ?_)); (focus (first | (with_reducible rfl) | ((simp (disch := omega) only [go_sem]); done))); simp (disch := omega) only [go_sem , hs1, hs2, hs3, hs4, hs5, hs6, hs7, hs8, Int.toNat_zero, Int.toNat_one, List.length_nil]; (first | (with_reducible refine XRes_id ?_) | (with_reducible refine ADF_id ?_) | (with_reducible refine ADR_id1 ?_) | (with_reducible refine ADX_id ?_))) | ((first | (with_reducible refine XRes_skip ?_ ?_) | (with_reducible refine ADF_skip (b := true) ?_ ?_) | (with_reducible refine ADX_skip ?_ ?_) | ((with_reducible refine ADR_skip1 ?_ ?_ ?_); (focus rfl))); (focus (first | rfl | ((simp (disch := omega) only [go_sem]); done))); (simp only [putL, List.set_cons_succ, List.set_cons_zero]))) | ((first | (with_reducible refine XRes_nil ?_) | (with_reducible refine ADF_nil ?_) | (with_reducible refine ADR_nil ?_) | (with_reducible refine ADX_nil ?_)); (first | refine hK _ ?_ | refine hK _ _ ?_); clear hK K) | ((first | (with_reducible refine AX_reg0 fun K hK => ?_) | (refine AX_drawG1 tyOK (by kernel_rfl) (by rfl) (by kernel_rfl) fun K hK => ?_) | (refine AX_drawT tyOK (by kernel_rfl) (by decide +kernel) fun K hK => ?_) | (refine AX_drawM1 (by kernel_rfl) (by rfl) (by decide +kernel) fun K hK => ?_) | (refine AX_drawA tyOK (by kernel_rfl) (by decide +kernel) fun K hK => ?_)); (first | simp only [go_sem, preN, effOp, runF, alM, mapOp, alD2, kdOf2, Bool.not_false, Bool.not_true, reduceCtorEq] | simp only [go_sem, preN, effOp, runF, alM, mapOp, Bool.not_false, Bool.not_true, reduceCtorEq] | simp only [go_sem, preN, effOp, runF, alD2, kdOf2, Bool.not_false, Bool.not_true, reduceCtorEq] | simp only [go_sem, alD2, kdOf2, Bool.not_false, Bool.not_true, reduceCtorEq] | simp only [go_sem, preN, effOp, runF, Bool.not_false, Bool.not_true, reduceCtorEq] | simp only [go_sem])) | (first | (first | refine XTL (by rfl) hV ?_ | refine ATL tyOK (by rfl) hV ?_ | refine XTL (by rfl) hI ?_ | refine ATL tyOK (by rfl) hI ?_) | ((refine XRes_fn (by rfl) hC ?_); (rintro r H' ⟨rfl, rfl⟩); (simp only [putL, List.set_cons_succ, List.set_cons_zero])) | ((refine XRes_slot (by rfl) (by rfl) hS ?_); (rintro r H' ⟨rfl, rfl⟩); (simp only [putL, List.set_cons_succ, List.set_cons_zero]))))); refine Wk.o ?_; (repeat revert hK K); exact h9)) : A := w h9
set_option maxRecDepth 100000 in
set_option maxHeartbeats 2000000 in
theorem pf_variable (x : Int) : PF Try.prog 44 [lt (.int .i64 x)] fun r H' => r = lt (.int .i64 (lvar x)) ∧ H' = [] := by
  refine SF.forgetAll ?_
  have hs1 := trivial; have hs2 := trivial; have hs3 := trivial; have hs4 := trivial; have hs5 := trivial; have hs6 := trivial; have hs7 := trivial; have hs8 := trivial
  have hC := trivial; have hS := trivial; have hV := trivial; have hI := trivial
  unfold lvar
  by_cases h1 : 1 ≤ x ∧ x ≤ 100000
  · rw [if_pos h1]
    (refine SF_of_bodyX (aload tt) (aload_ok tyOK) Try.func44 rfl (by kernel_rfl) ?_; simp only [Try.ntmps44, List.length_cons, List.length_nil, Nat.reduceAdd, Nat.reduceSub, List.replicate_succ, List.replicate_zero, List.cons_append, List.nil_append])
    (refine Wk.o ?_; (repeat revert hK K); refine W53cda ?_; (repeat intro K hK); refine ⟨?_⟩)
    (simp only [bodyX]; refine ⟨_, by simp only [aresults, aresult, XS.as, Try.results44, aload, go_sem, Option.bind_some]; rfl, ?_⟩)
    exact ⟨.iv _, rfl, trivial⟩
  · rw [if_neg h1]
    by_cases h2 : -100000 ≤ x ∧ x ≤ -1
    · rw [if_pos h2]
      (refine SF_of_bodyX (aload tt) (aload_ok tyOK) Try.func44 rfl (by kernel_rfl) ?_; simp only [Try.ntmps44, List.length_cons, List.length_nil, Nat.reduceAdd, Nat.reduceSub, List.replicate_succ, List.replicate_zero, List.cons_append, List.nil_append])
      (refine Wk.o ?_; (repeat revert hK K); refine W53cda ?_; (repeat intro K hK); refine ⟨?_⟩)
      (simp only [bodyX]; refine ⟨_, by simp only [aresults, aresult, XS.as, Try.results44, aload, go_sem, Option.bind_some]; rfl, ?_⟩)
      exact ⟨.iv _, rfl, trivial⟩
    · rw [if_neg h2]
      by_cases h3 : 1 ≤ x
      · (refine SF_of_bodyX (aload tt) (aload_ok tyOK) Try.func44 rfl (by kernel_rfl) ?_; simp only [Try.ntmps44, List.length_cons, List.length_nil, Nat.reduceAdd, Nat.reduceSub, List.replicate_succ, List.replicate_zero, List.cons_append, List.nil_append])
        (refine Wk.o ?_; (repeat revert hK K); refine W53cda ?_; (repeat intro K hK); refine ⟨?_⟩)
        (simp only [bodyX]; refine ⟨_, by simp only [aresults, aresult, XS.as, Try.results44, aload, go_sem, Option.bind_some]; rfl, ?_⟩)
        exact ⟨.iv _, rfl, trivial⟩
      · by_cases h4 : -100000 ≤ x
        · (refine SF_of_bodyX (aload tt) (aload_ok tyOK) Try.func44 rfl (by kernel_rfl) ?_; simp only [Try.ntmps44, List.length_cons, List.length_nil, Nat.reduceAdd, Nat.reduceSub, List.replicate_succ, List.replicate_zero, List.cons_append, List.nil_append])
          (refine Wk.o ?_; (repeat revert hK K); refine W53cda ?_; (repeat intro K hK); refine ⟨?_⟩)
          (simp only [bodyX]; refine ⟨_, by simp only [aresults, aresult, XS.as, Try.results44, aload, go_sem, Option.bind_some]; rfl, ?_⟩)
          exact ⟨.iv _, rfl, trivial⟩
        · (refine SF_of_bodyX (aload tt) (aload_ok tyOK) Try.func44 rfl (by kernel_rfl) ?_; simp only [Try.ntmps44, List.length_cons, List.length_nil, Nat.reduceAdd, Nat.reduceSub, List.replicate_succ, List.replicate_zero, List.cons_append, List.nil_append])
          (refine Wk.o ?_; (repeat revert hK K); refine W53cda ?_; (repeat intro K hK); refine ⟨?_⟩)
          (simp only [bodyX]; refine ⟨_, by simp only [aresults, aresult, XS.as, Try.results44, aload, go_sem, Option.bind_some]; rfl, ?_⟩)
          exact ⟨.iv _, rfl, trivial⟩
set_option maxRecDepth 100000 in
theorem pf_LVar (x : Int) : PF Try.prog 43 [lt (.int .i64 x)] fun r H' => r = lt (.int .i64 (lvar x)) ∧ H' = [] := by
  refine SF.forgetAll ?_
  have hs1 := trivial; have hs2 := trivial; have hs3 := trivial; have hs4 := trivial; have hs5 := trivial; have hs6 := trivial; have hs7 := trivial; have hs8 := trivial
  have hC := trivial; have hS := trivial; have hV := trivial; have hI := trivial
  have hV := pf_variable x
  (refine SF_of_bodyX (aload tt) (aload_ok tyOK) Try.func43 rfl (by kernel_rfl) ?_; simp only [Try.ntmps43, List.length_cons, List.length_nil, Nat.reduceAdd, Nat.reduceSub, List.replicate_succ, List.replicate_zero, List.cons_append, List.nil_append])
  (refine Wk.o ?_; (repeat revert hK K); refine W53cda ?_; (repeat intro K hK); refine ⟨?_⟩)
  (simp only [bodyX]; refine ⟨_, by simp only [aresults, aresult, XS.as, Try.results43, aload, go_sem, Option.bind_some]; rfl, ?_⟩)
  exact ⟨.iv _, rfl, trivial⟩
set_option maxRecDepth 100000 in
set_option maxHeartbeats 2000000 in
theorem pf_LIndex (x : Int) : PF Try.prog 38 [lt (.int .i64 x)] fun r H' => r = lt (.int .i64 (lindex x)) ∧ H' = [] := by
  refine SF.forgetAll ?_
  have hs1 := trivial; have hs2 := trivial; have hs3 := trivial; have hs4 := trivial; have hs5 := trivial; have hs6 := trivial; have hs7 := trivial; have hs8 := trivial
  have hC := trivial; have hS := trivial; have hV := trivial; have hI := trivial
  have hV := pf_LVar x
  have hb := lvar_bd x
  unfold lindex
  generalize lvar x = v at *
  by_cases h1 : v = 0
  · rw [if_pos h1]
    by_cases h2 : x < 0
    · (refine SF_of_bodyX (aload tt) (aload_ok tyOK) Try.func38 rfl (by kernel_rfl) ?_; simp only [Try.ntmps38, List.length_cons, List.length_nil, Nat.reduceAdd, Nat.reduceSub, List.replicate_succ, List.replicate_zero, List.cons_append, List.nil_append])
      (refine Wk.o ?_; (repeat revert hK K); refine W53cda ?_; (repeat intro K hK); refine ⟨?_⟩)
      (simp only [bodyX]; refine ⟨_, by simp only [aresults, aresult, XS.as, Try.results38, aload, go_sem, Option.bind_some]; rfl, ?_⟩)
      exact ⟨.iv _, rfl, trivial⟩
    · (refine SF_of_bodyX (aload tt) (aload_ok tyOK) Try.func38 rfl (by kernel_rfl) ?_; simp only [Try.ntmps38, List.length_cons, List.length_nil, Nat.reduceAdd, Nat.reduceSub, List.replicate_succ, List.replicate_zero, List.cons_append, List.nil_append])
      (refine Wk.o ?_; (repeat revert hK K); refine W53cda ?_; (repeat intro K hK); refine ⟨?_⟩)
      (simp only [bodyX]; refine ⟨_, by simp only [aresults, aresult, XS.as, Try.results38, aload, go_sem, Option.bind_some]; rfl, ?_⟩)
      exact ⟨.iv _, rfl, trivial⟩
  · rw [if_neg h1]
    by_cases h2 : x < 0
    · rw [if_pos h2]
      (refine SF_of_bodyX (aload tt) (aload_ok tyOK) Try.func38 rfl (by kernel_rfl) ?_; simp only [Try.ntmps38, List.length_cons, List.length_nil, Nat.reduceAdd, Nat.reduceSub, List.replicate_succ, List.replicate_zero, List.cons_append, List.nil_append])
      (refine Wk.o ?_; (repeat revert hK K); refine W53cda ?_; (repeat intro K hK); refine ⟨?_⟩)
      (simp only [bodyX]; refine ⟨_, by simp only [aresults, aresult, XS.as, Try.results38, aload, go_sem, Option.bind_some]; rfl, ?_⟩)
      exact ⟨.iv _, rfl, trivial⟩
    · rw [if_neg h2]
      (refine SF_of_bodyX (aload tt) (aload_ok tyOK) Try.func38 rfl (by kernel_rfl) ?_; simp only [Try.ntmps38, List.length_cons, List.length_nil, Nat.reduceAdd, Nat.reduceSub, List.replicate_succ, List.replicate_zero, List.cons_append, List.nil_append])
      (refine Wk.o ?_; (repeat revert hK K); refine W53cda ?_; (repeat intro K hK); refine ⟨?_⟩)
      (simp only [bodyX]; refine ⟨_, by simp only [aresults, aresult, XS.as, Try.results38, aload, go_sem, Option.bind_some]; rfl, ?_⟩)
      exact ⟨.iv _, rfl, trivial⟩
def tv (L : List Int) (x : Int) : Int := if x ∈ L then 1 else if -x ∈ L then -1 else 0
theorem tv_bd (L : List Int) (x : Int) : -1 ≤ tv L x ∧ tv L x ≤ 1 := by unfold tv; split <;> (try split) <;> omega
def vix (x : Int) : Nat := (lindex x).toNat
structure TrS (n : Nat) (L St Of Vl lv rs : List Int) : Prop where
  n1 : n ≤ 100000
  l1 : lv.length = L.length
  l2 : rs.length = L.length
  rng : ∀ i, i < L.length → lvar (L.getD i 0) ≠ 0 ∧ lvar (L.getD i 0) ≤ n
  inj : ∀ i j, i < L.length → j < L.length → lvar (L.getD i 0) = lvar (L.getD j 0) → i = j
  vl : Vl.length = 2 * n
  va : ∀ x, lvar x ≠ 0 → lvar x ≤ n → Vl.getD (vix x) 0 = tv L x
  ofl : Of.length = (n + 1) * 3
  of : ∀ i, i < L.length → Of.getD ((lvar (L.getD i 0)).toNat * 3) 0 = lv.getD i 0 ∧ Of.getD ((lvar (L.getD i 0)).toNat * 3 + 1) 0 = rs.getD i 0 ∧ Of.getD ((lvar (L.getD i 0)).toNat * 3 + 2) 0 = i
  stb : ∀ k, k < St.length → 0 ≤ St.getD k 0 ∧ St.getD k 0 ≤ L.length
  lvb : ∀ i, i < L.length → 0 ≤ lv.getD i 0 ∧ lv.getD i 0 ≤ St.length ∧ ∀ k : Nat, k < St.length → (St.getD k 0 ≤ i ↔ (k : Int) < lv.getD i 0)
structure TrAt (n : Nat) (H : AHeap) (q1 q2 : Nat) (L St Of Vl : List Int) : Prop where
  h0 : H[0]? = some (some ⟨73, Of.map lint⟩)
  h1 : H[1]? = some (some ⟨70, Vl.map l8⟩)
  h2 : H[2]? = some (some ⟨57, [.osl q1 0 L.length 1, .osl q2 0 St.length 1, .osl 0 0 (n + 1) 3, .osl 1 0 Vl.length 1, lt (.bool true)]⟩)
  h3 : H[q1]? = some (some ⟨3, L.map lint⟩)
  h4 : H[q2]? = some (some ⟨3, St.map lint⟩)
theorem TrAt.sub {n : Nat} {H H' : AHeap} {q1 q2 : Nat} {L St Of Vl : List Int} (h : TrAt n H q1 q2 L St Of Vl) (hs : Sub H H') : TrAt n H' q1 q2 L St Of Vl := ⟨hs.2 _ _ h.h0, hs.2 _ _ h.h1, hs.2 _ _ h.h2, hs.2 _ _ h.h3, hs.2 _ _ h.h4⟩
theorem lix {x : Int} {n : Nat} (h : lvar x ≠ 0) (hn : lvar x ≤ n) : lindex x = (vix x : Int) ∧ vix x < 2 * n := by
  have hb := lvar_bd x
  unfold vix lindex
  rw [if_neg h]
  split <;> omega
theorem lix_no {x : Int} {n : Nat} (h : ¬ (lvar x ≠ 0 ∧ lvar x ≤ n)) : lindex x < 0 ∨ 2 * (n : Int) ≤ lindex x := by
  have hb := lvar_bd x
  unfold lindex
  by_cases h0 : lvar x = 0
  · rw [if_pos h0]; omega
  · rw [if_neg h0]; split <;> omega
def trV (n : Nat) (L : List Int) (x : Int) : Int := if lvar x ≠ 0 ∧ lvar x ≤ n then tv L x else 0
set_option maxRecDepth 100000 in
set_option maxHeartbeats 2000000 in
theorem pf_tValue {n : Nat} {H : AHeap} {q1 q2 : Nat} {L St Of Vl lv rs : List Int} (hH : TrAt n H q1 q2 L St Of Vl) (hT : TrS n L St Of Vl lv rs) (x : Int) : SF Try.prog 20 [.optr 2 0, lt (.int .i64 x)] H fun r H' => r = lt (.int .i64 (trV n L x)) ∧ H' = H := by
  have hs1 := trivial; have hs2 := trivial; have hs3 := trivial; have hs4 := trivial; have hs5 := trivial; have hs6 := trivial; have hs7 := trivial; have hs8 := trivial
  have hC := trivial; have hS := trivial; have hV := trivial; have hI := trivial
  have hs1 := hH.h1; have hs2 := hH.h2
  have hI := pf_LIndex x
  have hvl := hT.vl
  have hn := hT.n1
  unfold trV
  by_cases h1 : lvar x ≠ 0 ∧ lvar x ≤ n
  · rw [if_pos h1]
    obtain ⟨e1, e2⟩ := lix h1.1 h1.2
    have hs3 := hT.va x h1.1 h1.2
    have hb := tv_bd L x
    rw [e1] at hI
    generalize vix x = i at *
    generalize tv L x = y at *
    have hs4 : IntKind.i64.wrap y = y := wrap_in y (by omega)
    (refine SF_of_bodyX (aload tt) (aload_ok tyOK) Try.func20 rfl (by kernel_rfl) ?_; simp only [Try.ntmps20, List.length_cons, List.length_nil, Nat.reduceAdd, Nat.reduceSub, List.replicate_succ, List.replicate_zero, List.cons_append, List.nil_append])
    (refine Wk.o ?_; (repeat revert hK K); refine W53cda ?_; (repeat intro K hK); refine ⟨?_⟩)
    (simp only [bodyX]; refine ⟨_, by simp only [aresults, aresult, XS.as, Try.results20, aload, go_sem, Option.bind_some]; rfl, ?_⟩)
    exact ⟨rfl, trivial⟩
  · rw [if_neg h1]
    have hno := lix_no h1
    have hlb := lindex_bd x
    generalize lindex x = i at *
    by_cases h2 : i < 0
    · (refine SF_of_bodyX (aload tt) (aload_ok tyOK) Try.func20 rfl (by kernel_rfl) ?_; simp only [Try.ntmps20, List.length_cons, List.length_nil, Nat.reduceAdd, Nat.reduceSub, List.replicate_succ, List.replicate_zero, List.cons_append, List.nil_append])
      (refine Wk.o ?_; (repeat revert hK K); refine W53cda ?_; (repeat intro K hK); refine ⟨?_⟩)
      (simp only [bodyX]; refine ⟨_, by simp only [aresults, aresult, XS.as, Try.results20, aload, go_sem, Option.bind_some]; rfl, ?_⟩)
      exact ⟨rfl, trivial⟩
    · (refine SF_of_bodyX (aload tt) (aload_ok tyOK) Try.func20 rfl (by kernel_rfl) ?_; simp only [Try.ntmps20, List.length_cons, List.length_nil, Nat.reduceAdd, Nat.reduceSub, List.replicate_succ, List.replicate_zero, List.cons_append, List.nil_append])
      (refine Wk.o ?_; (repeat revert hK K); refine W53cda ?_; (repeat intro K hK); refine ⟨?_⟩)
      (simp only [bodyX]; refine ⟨_, by simp only [aresults, aresult, XS.as, Try.results20, aload, go_sem, Option.bind_some]; rfl, ?_⟩)
      exact ⟨rfl, trivial⟩
end Go.Proofs.Ytfpmfjmjnmjcdaa
