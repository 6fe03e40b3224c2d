import Derived.Test.YtpfbcjlgbdbcpaaMgAW
import Derived.Test.YtpfbcjlgbdbcpaaMgAX
import Derived.Shelf.SlSortCmp.NoneTotal
import Derived.Test.YtpfbcjlgbdbcpaaMgAS
import Derived.Test.YtpfbcjlgbdbcpaaMgAT
namespace Go.Proofs.Ytpfbcjlgbdbcpaa
open Go.RowKit
set_option linter.unusedVariables false
set_option linter.unusedSimpArgs false
variable {P : Program} {m : Nat} {Q : Exit → XS → Prop} {fr : List AV} {H : AHeap} {M : MS} {tt : TT}
def kdU : Op → Kd
  | .load _ _ => .read
  | .store _ _ _ => .chg
  | .alloc _ | .box _ _ | .buildSlice _ _ _ | .makeSlice _ _ _ => .grow
  | .call c => match c.callee with
    | .builtin .append => .chg
    | .builtin _ => .free
    | _ => .read
  | _ => .free
def alU (ops : List Oper) : List Kd := ops.map fun o => kdU o.op
theorem AX_drawU (hT : TyOK P tt) (hmx : P.follows .mixedOrders = true) {id : Nat} {ops : List Oper} (hord : ordOK ops.toArray ops.length (alU ops) = true)
    (h : ∀ (K : List AV → AHeap → Prop), (∀ F H', Q .normal ⟨F, H', M⟩ → K F H') → ADR P H.length [] H K H (ops.map (strip (dsts ops)), alU ops, fr)) : AX P m (.region id ops.toArray true) Q ⟨fr, H, M⟩ :=
  AX_drawS hT hmx (alU ops) ops.length 0 hord fun K hK => by
    have e : extH 0 H = H := by simp [extH]
    rw [e, List.take_length]
    exact h K fun F H' hq => hK F H' (by rw [List.drop_length]; exact XRes_nil hq)
variable {n0 : Nat} {us : List Nat} {H0 : AHeap} {K : List AV → AHeap → Prop} {Hc : AHeap} {al : List Kd} {l : List Oper} {args : Array Operand} {tys : Array TypeId} {d : Option Tmp} {ty : TypeId} {pos : String} {after : Array Edge} {g : Option (Nat × Bool)}
theorem ADR_tellR {f : FuncId} (hw : wantedS fr ⟨d, .call { callee := .value (.func f), args := args, argTypes := tys }, ty, pos, after, g⟩ = some true) {x : AV} (hc : PF P f (args.toList.map (AS.ev ⟨fr, H0⟩)) fun r H' => r = x ∧ H' = []) (hargs : ∀ a ∈ args.toList.map (AS.ev ⟨fr, H0⟩), Ids 0 a) (hx : ∀ k, x.ren k = x)
    (h : ADR P n0 us H0 K Hc (l, al, putL fr d x)) : ADR P n0 us H0 K Hc (⟨d, .call { callee := .value (.func f), args := args, argTypes := tys }, ty, pos, after, g⟩ :: l, .read :: al, fr) := fun n hn =>
  ⟨x, Hc, none, .pure _ (wanted_iff hn hw) fun H _ => does_call (.func f) args tys rfl f [] [] rfl (by
    have e : args.toList.map (AS.ev ⟨fr, H⟩) = args.toList.map (AS.ev ⟨fr, H0⟩) := List.map_congr_left fun y _ => by cases y <;> rfl
    simpa [e] using PF.tells (H := H) hargs hx hc), h n (by show (putL _ _ _).length ≤ n; rw [putL_len]; exact hn)⟩
end Go.Proofs.Ytpfbcjlgbdbcpaa
namespace Go.Proofs.Ytpfbcjlgbdbcpaa
open Go.RowKit
set_option linter.unusedVariables false
set_option linter.unusedSimpArgs false
theorem frz_iv {H : AHeap} {ds : List Nat} {o : Nat} {t : TypeId} {x : IV} (hd : o ∈ ds) (h : H[o]? = some (some ⟨t, [.iv x]⟩)) : FrzV (onlyH ds H) (.optr o 0) (.iv (.ptr (fun _ => x) 1)) := by
  refine .iv _ _ (.optr o 0 1 _ ⟨t, [.iv x]⟩ (fun j => .iv x) (by decide) (only_mk hd h) (fun j hj => ?_) fun j _ => .iv _)
  rcases j with _ | j
  · rfl
  · omega
theorem Wf131a {A B : Prop} (h9 : B) (w : B → A := by (intro h9; (repeat intro K hK); refine ⟨?_⟩; (repeat (first | (first | (with_reducible first | refine AX_block ?_ | refine AX_skip ?_ | refine AX_exit ?_ | refine AX_ret ?_ | refine AX_ift ?_ | refine AX_iff ?_ | refine AX_seq_k (fun K hK => ?_) | refine ContX.use (by assumption) ?_) | simp only [thenX, inBlockX, if_true, if_false, reduceCtorEq]) | (first | ((first | (with_reducible refine XRes_op tyOK ?_ ?_) | ((with_reducible first | refine ADF_op tyOK ?_ ?_ ?_ | refine ADX_op tyOK ?_ ?_ ?_); (focus rfl)) | (with_reducible refine ADR_alloc1 tyOK ?_ ?_) | ((with_reducible refine ADR_free1 tyOK ?_ ?_ ?_); (focus rfl)) | ((with_reducible refine ADR_free0 tyOK ?_ ?_ ?_); (focus rfl)) | ((with_reducible refine ADR_read1 tyOK ?_ ?_ ?_); (focus rfl)) | (with_reducible refine ADR_chg1 tyOK ?_ ?_)); (focus (first | (with_reducible rfl) | ((simp (disch := omega) only [go_sem]); done))); simp (disch := omega) only [go_sem , flatR_s, flatR_k, flatR_n, flatR_r, hs1, hs2, hs3, hs4, hs5, rep_lb, List.length_set, List.length_nil, Nat.reduceLeDiff, Int.toNat_zero]; (first | (with_reducible refine XRes_id ?_) | (with_reducible refine ADF_id ?_) | (with_reducible refine ADR_id1 ?_) | (with_reducible refine ADX_id ?_))) | ((first | (with_reducible refine XRes_skip ?_ ?_) | (with_reducible refine ADF_skip (b := true) ?_ ?_) | (with_reducible refine ADX_skip ?_ ?_) | ((with_reducible refine ADR_skip1 ?_ ?_ ?_); (focus rfl))); (focus (first | rfl | ((simp (disch := omega) only [go_sem]); done))); (simp only [putL, List.set_cons_succ, List.set_cons_zero]))) | ((first | (with_reducible refine XRes_nil ?_) | (with_reducible refine ADF_nil ?_) | (with_reducible refine ADR_nil ?_) | (with_reducible refine ADX_nil ?_)); (first | refine hK _ ?_ | refine hK _ _ ?_); clear hK K) | ((first | (with_reducible refine AX_reg0 fun K hK => ?_) | (refine AX_drawG1 tyOK (by kernel_rfl) (by rfl) (by kernel_rfl) fun K hK => ?_) | (refine AX_drawT tyOK (by kernel_rfl) (by decide +kernel) fun K hK => ?_) | (refine AX_drawM1 (by kernel_rfl) (by rfl) (by decide +kernel) fun K hK => ?_) | (refine AX_drawA tyOK (by kernel_rfl) (by decide +kernel) fun K hK => ?_)); (first | simp only [go_sem, preN, effOp, runF, alM, mapOp, alD2, kdOf2, Bool.not_false, Bool.not_true, reduceCtorEq] | simp only [go_sem, preN, effOp, runF, alM, mapOp, Bool.not_false, Bool.not_true, reduceCtorEq] | simp only [go_sem, preN, effOp, runF, alD2, kdOf2, Bool.not_false, Bool.not_true, reduceCtorEq] | simp only [go_sem, alD2, kdOf2, Bool.not_false, Bool.not_true, reduceCtorEq] | simp only [go_sem, preN, effOp, runF, Bool.not_false, Bool.not_true, reduceCtorEq] | simp only [go_sem])) | (first | (first | refine XTL (by rfl) hC ?_ | refine ATL tyOK (by rfl) hC ?_ | refine XTL (by rfl) hN ?_ | refine ATL tyOK (by rfl) hN ?_)))); refine Wk.o ?_; (repeat revert hK K); exact h9)) : A := w h9
theorem Wf131b {A B : Prop} (h9 : B) (w : B → A := by (intro h9; (repeat intro K hK); refine ⟨?_⟩; (repeat (first | (first | ((first | (with_reducible refine XRes_op tyOK ?_ ?_) | ((with_reducible first | refine ADF_op tyOK ?_ ?_ ?_ | refine ADX_op tyOK ?_ ?_ ?_); (focus rfl)) | (with_reducible refine ADR_alloc1 tyOK ?_ ?_) | ((with_reducible refine ADR_free1 tyOK ?_ ?_ ?_); (focus rfl)) | ((with_reducible refine ADR_free0 tyOK ?_ ?_ ?_); (focus rfl)) | ((with_reducible refine ADR_read1 tyOK ?_ ?_ ?_); (focus rfl)) | (with_reducible refine ADR_chg1 tyOK ?_ ?_)); (focus (first | (with_reducible rfl) | ((simp (disch := omega) only [go_sem]); done))); simp (disch := omega) only [go_sem , flatR_s, flatR_k, flatR_n, flatR_r, hs1, hs2, hs3, hs4, hs5, rep_lb, List.length_set, List.length_nil, Nat.reduceLeDiff, Int.toNat_zero]; (first | (with_reducible refine XRes_id ?_) | (with_reducible refine ADF_id ?_) | (with_reducible refine ADR_id1 ?_) | (with_reducible refine ADX_id ?_))) | ((first | (with_reducible refine XRes_skip ?_ ?_) | (with_reducible refine ADF_skip (b := true) ?_ ?_) | (with_reducible refine ADX_skip ?_ ?_) | ((with_reducible refine ADR_skip1 ?_ ?_ ?_); (focus rfl))); (focus (first | rfl | ((simp (disch := omega) only [go_sem]); done))); (simp only [putL, List.set_cons_succ, List.set_cons_zero]))) | ((first | (with_reducible refine XRes_nil ?_) | (with_reducible refine ADF_nil ?_) | (with_reducible refine ADR_nil ?_) | (with_reducible refine ADX_nil ?_)); (first | refine hK _ ?_ | refine hK _ _ ?_); clear hK K))); refine Wk.o ?_; (repeat revert hK K); exact h9)) : A := w h9
set_option maxRecDepth 100000 in
set_option maxHeartbeats 2000000 in
theorem pf_dead1 (L : List Int) (hl : L.length ≤ 1000000) (k : Int) (x : Rw) : PF Try.prog 30 [rwA x, .iv (.ptr (fun _ => .lit (.int .i64 k)) 1), .iv (.ptr (fun _ => iInts L) 1)] fun r H' => r = lt (.bool (decide (x.k = k ∧ x.s ∈ L))) ∧ H' = [] := by
  refine SF.forgetAll ?_
  have hs1 := trivial; have hs2 := trivial; have hs3 := trivial; have hs4 := trivial; have hs5 := trivial; have hC := trivial; have hN := trivial
  have hC := pf_containsI L x.s hl
  by_cases h1 : x.k = k
  · by_cases h2 : x.s ∈ L
    · rw [decide_eq_true ⟨h1, h2⟩]
      rw [decide_eq_true h2] at hC
      generalize iInts L = z at *
      have hs1 := h1
      (refine SF_of_bodyX (aload tt) (aload_ok tyOK) Try.func30 rfl (by kernel_rfl) ?_; simp only [Try.ntmps30, List.length_cons, List.length_nil, Nat.reduceAdd, Nat.reduceSub, List.replicate_succ, List.replicate_zero, List.cons_append, List.nil_append])
      (refine Wk.o ?_; (repeat revert hK K); refine Wf131a ?_; (repeat intro K hK); refine ⟨?_⟩)
      (simp only [bodyX]; refine ⟨_, by simp only [aresults, aresult, XS.as, Try.results30, aload, go_sem, Option.bind_some]; rfl, ?_⟩)
      exact ⟨.iv _, rfl, trivial⟩
    · rw [decide_eq_false (fun h => h2 h.2)]
      rw [decide_eq_false h2] at hC
      generalize iInts L = z at *
      have hs1 := h1
      (refine SF_of_bodyX (aload tt) (aload_ok tyOK) Try.func30 rfl (by kernel_rfl) ?_; simp only [Try.ntmps30, List.length_cons, List.length_nil, Nat.reduceAdd, Nat.reduceSub, List.replicate_succ, List.replicate_zero, List.cons_append, List.nil_append])
      (refine Wk.o ?_; (repeat revert hK K); refine Wf131a ?_; (repeat intro K hK); refine ⟨?_⟩)
      (simp only [bodyX]; refine ⟨_, by simp only [aresults, aresult, XS.as, Try.results30, aload, go_sem, Option.bind_some]; rfl, ?_⟩)
      exact ⟨.iv _, rfl, trivial⟩
  · rw [decide_eq_false (fun h => h1 h.1)]
    generalize iInts L = z at *
    (refine SF_of_bodyX (aload tt) (aload_ok tyOK) Try.func30 rfl (by kernel_rfl) ?_; simp only [Try.ntmps30, List.length_cons, List.length_nil, Nat.reduceAdd, Nat.reduceSub, List.replicate_succ, List.replicate_zero, List.cons_append, List.nil_append])
    (refine Wk.o ?_; (repeat revert hK K); refine Wf131a ?_; (repeat intro K hK); refine ⟨?_⟩)
    (simp only [bodyX]; refine ⟨_, by simp only [aresults, aresult, XS.as, Try.results30, aload, go_sem, Option.bind_some]; rfl, ?_⟩)
    exact ⟨.iv _, rfl, trivial⟩
theorem anyR_dd (o : Ob) (L : List Int) (k : Int) : (!decide (anyR o.R fun x => decide (x.k = k ∧ x.s ∈ L))) = decide (obDd o L k) := by
  rw [Bool.eq_iff_iff, Bool.not_eq_true', decide_eq_false_iff_not, decide_eq_true_iff]
  unfold anyR obDd
  constructor
  · intro h i hi hh; exact h ⟨i, hi, decide_eq_true hh⟩
  · rintro h ⟨i, hi, hh⟩; exact h i hi (of_decide_eq_true hh)
set_option maxRecDepth 100000 in
set_option maxHeartbeats 4000000 in
theorem pf_Dead (o : Ob) (hr : o.R.length ≤ 100000) (ho : o.Ok) : PF Try.prog 15 [obA o] fun r H' => r = .iv (iInts (deL o)) ∧ H' = [] := by
  refine SF.frozen ?_
  have hs1 := trivial; have hs2 := trivial; have hs3 := trivial; have hs4 := trivial; have hs5 := trivial; have hC := trivial; have hN := trivial
  have hC := pf_Reach o hr ho
  by_cases h0 : obE o = 0
  · obtain ⟨hh, herr⟩ := obE_zero.1 h0
    unfold obHead at hh
    obtain ⟨n, hn⟩ : ∃ n : Nat, o.K = n := ⟨o.K.toNat, by omega⟩
    have hnK : o.K.toNat = n := by omega
    have hn64 : n ≤ 64 := by omega
    have hres : deL o = nbL (deD o (reL o)) n := by unfold deL; rw [if_pos h0, hnK]
    have hpos := reL_ne h0
    have hdl := deD_len o (reL o)
    have hda := fun k (h : k < n) => deD_at o (reL o) (k := k) (by omega)
    have hLl : (reL o).length ≤ 32 := by
      unfold reL; rw [if_pos h0]
      have := nbL_len (reD o) o.S.toNat; omega
    have hd1 := fun k x => pf_dead1 (reL o) (by omega) k x
    have hdd := anyR_dd o (reL o)
    rw [hnK] at hdl
    have hs1 : o.K = (n : Int) := hn
    have hs3 : (List.replicate n false).length = n := by simp
    unfold iInts obA at hC
    rw [hn] at hC
    generalize reL o = L at *
    generalize deD o L = DD at *
    (refine SF_of_bodyX (aload tt) (aload_ok tyOK) Try.func15 rfl (by kernel_rfl) ?_; simp only [Try.ntmps15, List.length_cons, List.length_nil, Nat.reduceAdd, Nat.reduceSub, List.replicate_succ, List.replicate_zero, List.cons_append, List.nil_append])
    (refine Wk.o ?_; (repeat revert hK K); refine Wf131a ?_; (repeat intro K hK); refine ⟨?_⟩)
    refine AX_freeze [1] [(3, .iv (.ptr (fun _ => iInts L) 1))] (fun p hp => ?_) ?_
    · rw [List.mem_singleton.1 hp]; exact frz_iv (by decide) rfl
    simp only [setN, updS, List.set_cons_succ, List.set_cons_zero]
    refine AX_wh (σ := Nat × List Bool) [17, 18, 5, 19, 20, 21, 22, 23, 24, 25, 26, 27] (fun (k, _) => [(16, lint k)]) (fun (_, D) => [some ⟨24, [lt (.int .i64 o.S), lt (.int .i64 n), lt (.int .i64 o.I), .iv (iRws o.R)]⟩, none, some ⟨4, D.map lb⟩]) (fun _ => []) (fun (k, D) => k ≤ n ∧ D.length = n ∧ ∀ j, j < k → D.getD j false = decide (obDd o L j)) (fun (k, _) => n - k) (0, List.replicate n false) (fun d => by first | ((simp only [deadS, updS, List.set_cons_succ, List.set_cons_zero, lint, List.length_nil, List.length_cons]); done) | ((simp only [deadS, updS, List.set_cons_succ, List.set_cons_zero, lint, List.length_nil, List.length_cons]); rfl) | rfl) rfl rfl ⟨Nat.zero_le _, by simp, fun j h => by omega⟩ ?_
    rintro ⟨k, D⟩ d fr hfr ⟨i1, i2, i3⟩
    simp only [updS, deadS, List.set_cons_succ, List.set_cons_zero, lint] at hfr
    subst hfr
    (try dsimp only)
    by_cases hlt : k < n
    · have hF := sf_containsRow o.R hr (fun x => decide (x.k = k ∧ x.s ∈ L)) 30 _ [] fun x => hd1 k x
      have hdk := hdd k
      generalize decide (anyR o.R fun x => decide (x.k = (k : Int) ∧ x.s ∈ L)) = yes at *
      have i4 : ∀ j, j < k + 1 → (D.set k (!yes)).getD j false = decide (obDd o L j) := fun j hj => by
        rw [List.getD_eq_getElem?_getD, List.getElem?_set]
        by_cases e : k = j
        · subst e; rw [if_pos rfl, if_pos (by omega)]; exact hdk
        · rw [if_neg e, ← List.getD_eq_getElem?_getD]; exact i3 j (by omega)
      (repeat (first | (with_reducible first | refine AX_block ?_ | refine AX_skip ?_ | refine AX_exit ?_ | refine AX_ret ?_ | refine AX_ift ?_ | refine AX_iff ?_ | refine AX_seq_k (fun K hK => ?_) | refine ContX.use (by assumption) ?_) | simp only [thenX, inBlockX, if_true, if_false, reduceCtorEq]))
      (with_reducible refine AX_reg0 fun K hK => ?_); simp only [go_sem]
      (refine Wk.o ?_; (repeat revert hK K); refine Wf131b ?_; (repeat intro K hK); refine ⟨?_⟩)
      (repeat (first | (with_reducible first | refine AX_block ?_ | refine AX_skip ?_ | refine AX_exit ?_ | refine AX_ret ?_ | refine AX_ift ?_ | refine AX_iff ?_ | refine AX_seq_k (fun K hK => ?_) | refine ContX.use (by assumption) ?_) | simp only [thenX, inBlockX, if_true, if_false, reduceCtorEq]))
      (with_reducible refine AX_reg0 fun K hK => ?_); simp only [go_sem]
      (refine Wk.o ?_; (repeat revert hK K); refine Wf131b ?_; (repeat intro K hK); refine ⟨?_⟩)
      (repeat (first | (with_reducible first | refine AX_block ?_ | refine AX_skip ?_ | refine AX_exit ?_ | refine AX_ret ?_ | refine AX_ift ?_ | refine AX_iff ?_ | refine AX_seq_k (fun K hK => ?_) | refine ContX.use (by assumption) ?_) | simp only [thenX, inBlockX, if_true, if_false, reduceCtorEq]))
      refine AX_freeze [3] [(5, .iv (.ptr (fun _ => .lit (.int .i64 k)) 1))] (fun p hp => ?_) ?_
      · rw [List.mem_singleton.1 hp]; exact frz_iv (by decide) rfl
      simp only [setN, updS, List.set_cons_succ, List.set_cons_zero]
      (repeat (first | (with_reducible first | refine AX_block ?_ | refine AX_skip ?_ | refine AX_exit ?_ | refine AX_ret ?_ | refine AX_ift ?_ | refine AX_iff ?_ | refine AX_seq_k (fun K hK => ?_) | refine ContX.use (by assumption) ?_) | simp only [thenX, inBlockX, if_true, if_false, reduceCtorEq]))
      refine AX_drawU tyOK (by kernel_rfl) (by decide +kernel) fun K hK => ?_
      simp only [go_sem, alU, kdU, List.map_cons, List.map_nil]
      repeat (first | (first | ((first | (with_reducible refine XRes_op tyOK ?_ ?_) | ((with_reducible first | refine ADF_op tyOK ?_ ?_ ?_ | refine ADX_op tyOK ?_ ?_ ?_); (focus rfl)) | (with_reducible refine ADR_alloc1 tyOK ?_ ?_) | ((with_reducible refine ADR_free1 tyOK ?_ ?_ ?_); (focus rfl)) | ((with_reducible refine ADR_free0 tyOK ?_ ?_ ?_); (focus rfl)) | ((with_reducible refine ADR_read1 tyOK ?_ ?_ ?_); (focus rfl)) | (with_reducible refine ADR_chg1 tyOK ?_ ?_)); (focus (first | (with_reducible rfl) | ((simp (disch := omega) only [go_sem]); done))); simp (disch := omega) only [go_sem , flatR_s, flatR_k, flatR_n, flatR_r, hs1, hs2, hs3, hs4, hs5, rep_lb, List.length_set, List.length_nil, Nat.reduceLeDiff, Int.toNat_zero]; (first | (with_reducible refine XRes_id ?_) | (with_reducible refine ADF_id ?_) | (with_reducible refine ADR_id1 ?_) | (with_reducible refine ADX_id ?_))) | ((first | (with_reducible refine XRes_skip ?_ ?_) | (with_reducible refine ADF_skip (b := true) ?_ ?_) | (with_reducible refine ADX_skip ?_ ?_) | ((with_reducible refine ADR_skip1 ?_ ?_ ?_); (focus rfl))); (focus (first | rfl | ((simp (disch := omega) only [go_sem]); done))); (simp only [putL, List.set_cons_succ, List.set_cons_zero]))) | ((first | (with_reducible refine XRes_nil ?_) | (with_reducible refine ADF_nil ?_) | (with_reducible refine ADR_nil ?_) | (with_reducible refine ADX_nil ?_)); (first | refine hK _ ?_ | refine hK _ _ ?_); clear hK K) | ((refine ADR_tellR (by rfl) hF ?_ (fun _ => rfl) ?_); (focus exact idsA (by rfl)); (simp only [putL, List.set_cons_succ, List.set_cons_zero])))
      (refine Wk.o ?_; (repeat revert hK K); refine Wf131a ?_; (repeat intro K hK); refine ⟨?_⟩)
      exact WRN [0, 1, 2] (k + 1, D.set k (!yes)) ⟨by omega, by simp [i2], i4⟩ (by (first | omega | (dsimp only; omega) | (simp only; omega)))
    · obtain rfl : k = n := by omega
      have hD : D = DD := by
        apply List.ext_getElem (by omega)
        intro i h1 h2
        have a := (i3 i (by omega)).trans (hda i (by omega)).symm
        rwa [List.getD_eq_getElem?_getD, List.getElem?_eq_getElem h1, List.getD_eq_getElem?_getD, List.getElem?_eq_getElem h2] at a
      have hN := pf_numbers D (by omega)
      unfold iBools at hN
      rw [i2] at hN
      (repeat (first | (with_reducible first | refine AX_block ?_ | refine AX_skip ?_ | refine AX_exit ?_ | refine AX_ret ?_ | refine AX_ift ?_ | refine AX_iff ?_ | refine AX_seq_k (fun K hK => ?_) | refine ContX.use (by assumption) ?_) | simp only [thenX, inBlockX, if_true, if_false, reduceCtorEq]))
      (with_reducible refine AX_reg0 fun K hK => ?_); simp only [go_sem]
      (refine Wk.o ?_; (repeat revert hK K); refine Wf131b ?_; (repeat intro K hK); refine ⟨?_⟩)
      (repeat (first | (with_reducible first | refine AX_block ?_ | refine AX_skip ?_ | refine AX_exit ?_ | refine AX_ret ?_ | refine AX_ift ?_ | refine AX_iff ?_ | refine AX_seq_k (fun K hK => ?_) | refine ContX.use (by assumption) ?_) | simp only [thenX, inBlockX, if_true, if_false, reduceCtorEq]))
      refine AX_freeze [2] [(4, .iv (iBools D))] (fun p hp => ?_) ?_
      · rw [List.mem_singleton.1 hp]; exact frz_lb2 (only_mk (by decide) rfl) i2.symm
      simp only [setN, updS, List.set_cons_succ, List.set_cons_zero]
      unfold iBools
      rw [i2]
      (refine Wk.o ?_; (repeat revert hK K); refine Wf131a ?_; (repeat intro K hK); refine ⟨?_⟩)
      (simp only [bodyX]; refine ⟨_, by simp only [aresults, aresult, XS.as, Try.results15, aload, go_sem, Option.bind_some]; rfl, ?_⟩)
      exact ⟨_, .same _ (.iv _), by rw [hres, hD], trivial⟩
  · have hres : deL o = [] := by unfold deL; rw [if_neg h0]
    have hre : reL o = [] := by unfold reL; rw [if_neg h0]
    rw [hre] at hC
    unfold iInts at hC
    (refine SF_of_bodyX (aload tt) (aload_ok tyOK) Try.func15 rfl (by kernel_rfl) ?_; simp only [Try.ntmps15, List.length_cons, List.length_nil, Nat.reduceAdd, Nat.reduceSub, List.replicate_succ, List.replicate_zero, List.cons_append, List.nil_append])
    (refine Wk.o ?_; (repeat revert hK K); refine Wf131a ?_; (repeat intro K hK); refine ⟨?_⟩)
    (simp only [bodyX]; refine ⟨_, by simp only [aresults, aresult, XS.as, Try.results15, aload, go_sem, Option.bind_some]; rfl, ?_⟩)
    exact ⟨_, snap_nil, by rw [hres], trivial⟩
end Go.Proofs.Ytpfbcjlgbdbcpaa
namespace Go.Proofs.Ytpfbcjlgbdbcpaa
open Go.RowKit Go.Shelf Go.Lib Go.Sort
set_option linter.unusedVariables false
def sortFR_ren : Go.Shelf.Ren := ⟨fun | 6 => 33 | 15 => 40 | 14 => 39 | 28 => 50 | 29 => 51 | 20 => 42 | 21 => 43 | 22 => 44 | 23 => 45 | 24 => 46 | 25 => 47 | 26 => 48 | 27 => 49 | 46 => 52 | 47 => 53 | 48 => 54 | 49 => 55 | 50 => 56 | 57 => 57 | n => n, fun | 22 => 22 | 24 => 43 | 25 => 58 | 3 => 3 | 39 => 62 | 0 => 0 | 53 => 73 | 55 => 75 | 4 => 4 | 46 => 66 | 45 => 65 | 50 => 70 | 5 => 5 | 9 => 9 | 66 => 76 | 70 => 80 | 76 => 82 | 77 => 31 | n => n, fun | n => n⟩
theorem sortFR : Go.Proofs.SlLaysF0.n6 Try.prog sortFR_ren := {
  mixed := by kernel_rfl
  f6 := ⟨Try.f33.name, by decide, Try.func33.trans (congrArg some (by kernel_rfl))⟩
  f14 := ⟨Try.f39.name, by decide, Try.func39.trans (congrArg some (by kernel_rfl))⟩
  f15 := Try.func40.trans (congrArg some (by kernel_rfl))
  f20 := ⟨Try.f42.name, by decide, Try.func42.trans (congrArg some (by kernel_rfl))⟩
  f21 := ⟨Try.f43.name, by decide, Try.func43.trans (congrArg some (by kernel_rfl))⟩
  f22 := ⟨Try.f44.name, by decide, Try.func44.trans (congrArg some (by kernel_rfl))⟩
  f23 := ⟨Try.f45.name, by decide, Try.func45.trans (congrArg some (by kernel_rfl))⟩
  f24 := ⟨Try.f46.name, by decide, Try.func46.trans (congrArg some (by kernel_rfl))⟩
  f25 := ⟨Try.f47.name, by decide, Try.func47.trans (congrArg some (by kernel_rfl))⟩
  f26 := ⟨Try.f48.name, by decide, Try.func48.trans (congrArg some (by kernel_rfl))⟩
  f27 := ⟨Try.f49.name, by decide, Try.func49.trans (congrArg some (by kernel_rfl))⟩
  f28 := Try.func50.trans (congrArg some (by kernel_rfl))
  f29 := Try.func51.trans (congrArg some (by kernel_rfl))
  f46 := ⟨Try.f52.name, by decide, Try.func52.trans (congrArg some (by kernel_rfl))⟩
  f47 := Try.func53.trans (congrArg some (by kernel_rfl))
  f48 := Try.func54.trans (congrArg some (by kernel_rfl))
  f49 := ⟨Try.f55.name, by decide, Try.func55.trans (congrArg some (by kernel_rfl))⟩
  f50 := ⟨Try.f56.name, by decide, Try.func56.trans (congrArg some (by kernel_rfl))⟩
  f57 := ⟨Try.f57.name, by decide, Try.func57.trans (congrArg some (by kernel_rfl))⟩
  t0 := Try.underlying0
  a0 := Try.isAgg0
  z0 := Try.sizeOf0
  v0 := Try.zeroValue0
  t3 := Try.underlying3
  a3 := Try.isAgg3
  z3 := Try.sizeOf3
  v3 := Try.zeroValue3
  t4 := Try.underlying4
  a4 := Try.isAgg4
  z4 := Try.sizeOf4
  v4 := Try.zeroValue4
  t5 := Try.underlying5
  a5 := Try.isAgg5
  z5 := Try.sizeOf5
  v5 := Try.zeroValue5
  t9 := Try.underlying9
  a9 := Try.isAgg9
  z9 := Try.sizeOf9
  v9 := Try.zeroValue9
  t22 := Try.underlying22
  a22 := Try.isAgg22
  z22 := Try.sizeOf22
  v22 := Try.zeroValue22
  t25 := Try.underlying58
  a25 := Try.isAgg58
  z25 := Try.sizeOf58
  v25 := Try.zeroValue58
  t39 := Try.underlying62
  a39 := Try.isAgg62
  z39 := Try.sizeOf62
  v39 := Try.zeroValue62
  t45 := Try.underlying65
  a45 := Try.isAgg65
  z45 := Try.sizeOf65
  v45 := Try.zeroValue65
  t46 := Try.underlying66
  a46 := Try.isAgg66
  z46 := Try.sizeOf66
  v46 := Try.zeroValue66
  t50 := Try.underlying70
  a50 := Try.isAgg70
  z50 := Try.sizeOf70
  v50 := Try.zeroValue70
  t53 := Try.underlying73
  a53 := Try.isAgg73
  z53 := Try.sizeOf73
  v53 := Try.zeroValue73
  t55 := Try.underlying75
  a55 := Try.isAgg75
  z55 := Try.sizeOf75
  v55 := Try.zeroValue75
  t66 := Try.underlying76
  a66 := Try.isAgg76
  z66 := Try.sizeOf76
  v66 := Try.zeroValue76
  t70 := Try.underlying80
  a70 := Try.isAgg80
  z70 := Try.sizeOf80
  v70 := Try.zeroValue80
  t76 := Try.underlying82
  a76 := Try.isAgg82
  z76 := Try.sizeOf82
  v76 := Try.zeroValue82
  t77 := Try.underlying31
  a77 := Try.isAgg31
  z77 := Try.sizeOf31
  v77 := Try.zeroValue31 }
instance : Inhabited Rw := ⟨⟨0, 0, 0, 0⟩⟩
def rwV (x : Rw) : List Value := (rwFl x).map fun y => Value.int .i64 y
theorem rwV_len (x : Rw) : (rwV x).length = 4 := rfl
theorem Inv.same3 {G : Gh} {H : AHeap} {w w' : World} (h : Inv G H w) (ho : w'.os = w.os) (ht : w'.tape = w.tape) (hp : w'.output = w.output) (hh : ∀ (b : Nat) (x : Obj), w.heap[b]? = some x → w'.heap[b]? = some x) : Inv G H w' :=
  ⟨ho.trans h.os, ht.trans h.tape, hp.trans h.output, fun b x e => hh b x (h.fz b x e), fun b x e => hh b x (h.kp b x e), h.dom, h.live, fun o x e => (h.obj o x e).imp id fun ⟨k0, cs, k1, k2, k3, k4, k5, k6⟩ => ⟨k0, cs, hh _ _ k1, k2, k3, k4, k5, k6⟩, h.inj⟩
theorem ra_unit3 (n : Nat) (G : Gh) : RA n G (.tup []) (.tuple #[]) := .tup [] [] rfl (fun i x v h => by simp at h)
theorem flatK_rw (xs : List Rw) {t : Nat} (h : t < xs.length * 4) : (flatK rwV 4 xs.toArray)[t]! = Value.int .i64 ((flatR xs).getD t 0) := by
  rw [get_flatK _ _ _ _ (by simpa using h)]
  have h1 : t / 4 < xs.length := by omega
  have h2 : t % 4 < 4 := by omega
  have h3 := flatR_at h2 xs (t / 4)
  rw [show t / 4 * 4 + t % 4 = t by omega] at h3
  have e1 : xs.toArray[t / 4]! = xs[t / 4] := by
    rw [getElem!_pos xs.toArray (t / 4) (by simpa using h1)]; simp
  rw [h3, e1]
  have h4 : rwAt xs (t / 4) = xs[t / 4] := by unfold rwAt; rw [List.getD_eq_getElem?_getD, List.getElem?_eq_getElem h1]; rfl
  rw [h4]
  generalize xs[t / 4] = x
  rcases (by omega : t % 4 = 0 ∨ t % 4 = 1 ∨ t % 4 = 2 ∨ t % 4 = 3) with e | e | e | e <;> rw [e] <;> rfl
theorem SF_sortFR (cf : Rw → Rw → Int) (hO : SWO (ltOf cf)) (hT : ∀ x y, (ltOf cf) x y = false → (ltOf cf) y x = false → x = y) {H : AHeap} {o n : Nat} {t : TypeId} {xs : List Rw} {g : FuncId} (ho : H[o]? = some (some ⟨t, (flatR xs).map lint⟩)) (hn : n = xs.length) (hl : xs.length ≤ 1000000000)
    (eg : ∀ args w, (callFunc g args).run Try.prog w = .ok (.enter g args) w)
    (hcmp : ∀ (W : World) (x y : Rw), Calls Try.prog g #[.agg (rwV x).toArray, .agg (rwV y).toArray] W fun e w' => e = .returned (.int .i64 (cf x y)) ∧ ∃ q os', w' = grow (W.drewN q) os') :
    SF Try.prog 33 [.osl o 0 n 4, .fn g [] []] H fun r H' => r = .tup [] ∧ H' = H.set o (some ⟨t, (flatR (xs.mergeSort fun x y => !(ltOf cf) y x)).map lint⟩) := by
  subst hn
  refine ⟨⟨_, Try.func33, by kernel_rfl, rfl⟩, fun G w vs hi hr => ?_⟩
  obtain ⟨v, us, rfl, h1, hr⟩ := hr.uncons
  obtain ⟨fv, us2, rfl, hf, hr⟩ := hr.uncons
  rw [hr.unnil]
  cases hf with
  | fn _ _ _ vs0 cs0 f1 f2 f3 f4 =>
  have hvs0 : vs0 = [] := List.length_eq_zero_iff.1 f1.symm
  have hcs0 : cs0 = [] := List.length_eq_zero_iff.1 f2.symm
  subst hvs0 hcs0
  generalize hS : (xs.mergeSort fun x y => !(ltOf cf) y x) = S at *
  have hSl : S.length = xs.length := by rw [← hS]; exact List.length_mergeSort xs
  have hz : xs.length = 0 → H.set o (some ⟨t, (flatR S).map lint⟩) = H := fun h0 => by
    have hS0 : S = [] := List.length_eq_zero_iff.1 (by omega)
    have hx0 : xs = [] := List.length_eq_zero_iff.1 h0
    apply List.ext_getElem?
    intro i
    rw [List.getElem?_set]
    split
    · rename_i hi; subst hi
      rw [if_pos (List.getElem?_eq_some_iff.1 ho).1, ho, hS0, hx0]
    · rfl
  have none' : ∀ (p : Option Addr) (cap : Nat), xs.length = 0 → Calls Try.prog 33 #[.slice p 0 cap, .func (.func g) #[] #[]] w fun e w' => ∃ v r G' H', e = .returned v ∧ Gh.le H.length G G' ∧ H.length ≤ H'.length ∧ Inv G' H' w' ∧ RA H'.length G' r v ∧ r = .tup [] ∧ H' = H.set o (some ⟨t, (flatR S).map lint⟩) := fun p cap h0 => by
    refine (show Calls Try.prog 33 #[.slice p 0 cap, .func (.func g) #[] #[]] w _ from AnyF.slices_SortFunc_none sortFR p cap (.func (.func g) #[] #[]) w).mono ?_
    rintro e w' ⟨rfl, rfl⟩
    rw [hz h0]
    exact ⟨_, .tup [], G, H, rfl, Gh.le.refl _ _, Nat.le_refl _, hi, ra_unit3 _ _, rfl, rfl⟩
  have hfl := flatR_len xs
  have hfS := flatR_len S
  generalize hlen : xs.length = n at *
  cases h1 with
  | onil => exact none' none 0 rfl
  | osl _ _ _ _ b a cap k1 k2 k3 k4 k5 k6 =>
    by_cases h0 : n = 0
    · subst h0; exact none' _ _ rfl
    · have h2 : ((flatR xs).map lint) ≠ [] := by intro e; rw [List.map_eq_nil_iff] at e; rw [e] at hfl; simp at hfl; omega
      obtain ⟨m0, cs, m1, m2, m3, m4, m5, m6⟩ := hi.real ho h2
      have ha := k3 (by omega)
      rw [Nat.add_zero] at ha
      subst ha k2
      have hcell : ∀ j, j < n * 4 → cs[(G.mu o).2 + j]? = some (.int .i64 ((flatR xs).getD j 0)) := fun j hj => by
        obtain ⟨u, hu, hr⟩ := m3.cell (lint_at (by omega : j < (flatR xs).length))
        rw [← Array.getElem?_toList, hu, hr.lit_inv]
      have hH : HoldsK rwV 4 w (G.mu o).1 (G.mu o).2 xs.toArray := fun j hj => by
        have hj' : j < n * 4 := by simpa [hlen] using hj
        refine ⟨?_, by simp [World.frozen?, m1]⟩
        rw [cell_of_heap m1, hcell j hj', flatK_rw xs (by omega)]; rfl
      have hlt := lt_of_heap m1
      have h := AnyQ.slices_SortFunc_total sortFR 4 (fun w => by rfl) (fun w => by rfl) rwV rwV_len (fun x v hv => by
        unfold rwV at hv; obtain ⟨y, _, rfl⟩ := List.mem_map.1 hv; rfl) cf hO g #[] (G.mu o).1 (G.mu o).2 cap xs.toArray w eg (fun m os dk hdk x y => hcmp _ x y) hH hlt (by simp [hlen]; omega) hT
      simp only [List.size_toArray, hlen] at h
      refine (show Calls Try.prog 33 #[.slice (some ⟨(G.mu o).1, (G.mu o).2, none⟩) n cap, .func (.func g) #[] #[]] w _ from h).mono ?_
      rintro e w' ⟨rfl, q, os, rfl⟩
      rw [hS]
      have hcs : n * 4 + (G.mu o).2 ≤ cs.size := by
        have := hcell (n * 4 - 1) (by omega)
        have := (Array.getElem?_eq_some_iff.1 this).1
        omega
      have hFs : (flatK rwV 4 S.toArray).size = n * 4 := by rw [size_flatK]; simp [hSl]
      have hi2 := hi.row ho m0 ((flatR S).map lint) (putCells id (G.mu o).2 (flatK rwV 4 S.toArray) cs) (by unfold putCells; rw [Array.size_mapIdx]; exact m2) ⟨by unfold putCells; simp [hfS, hSl]; omega, fun i x v e1 e2 => by
        have hi3 : i < n * 4 := by have := (List.getElem?_eq_some_iff.1 e1).1; simpa [hfS, hSl] using this
        rw [lint_at (by omega)] at e1
        cases e1
        rw [List.getElem?_take, if_pos (by simpa [hfS, hSl] using hi3), List.getElem?_drop, Array.getElem?_toList] at e2
        have hc : (G.mu o).2 + i < cs.size := by omega
        unfold putCells at e2
        rw [Array.getElem?_mapIdx, Array.getElem?_eq_getElem hc] at e2
        simp only [Option.map_some, hFs, Nat.le_add_right, true_and, Nat.add_lt_add_iff_left, hi3, if_true, Nat.add_sub_cancel_left, Option.some.injEq, id] at e2
        subst e2
        rw [flatK_rw S (by omega)]
        exact .iv _ _ (.lit _)⟩ (lint_one _)
      refine ⟨_, .tup [], G, _, rfl, Gh.le.refl _ _, by rw [List.length_set]; exact Nat.le_refl _, hi2.same3 rfl rfl rfl fun k x e => ?_, ra_unit3 _ _, rfl, rfl⟩
      simp only [World.setRow, Array.getElem?_modify] at e
      show ((w.heap.modify (G.mu o).1 (onCells (putCells id (G.mu o).2 (flatK rwV 4 S.toArray)))) ++ os)[k]? = some x
      have hk : k < w.heap.size := by
        split at e
        · rename_i hk; omega
        · exact lt_of_heap e
      rw [Array.getElem?_append, if_pos (by rw [Array.size_modify]; exact hk), Array.getElem?_modify]
      split
      · rename_i hk; subst hk
        rw [if_pos rfl, m1] at e
        rw [m1]
        simpa [onCells] using e
      · rename_i hk
        rwa [if_neg hk] at e
end Go.Proofs.Ytpfbcjlgbdbcpaa
