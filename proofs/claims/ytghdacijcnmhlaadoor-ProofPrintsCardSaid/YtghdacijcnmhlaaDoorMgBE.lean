import Derived.Test.YtghdacijcnmhlaaDoorMgBD
import Derived.Test.YtghdacijcnmhlaaDoorMgAM
import Derived.Test.YtghdacijcnmhlaaDoorMgAN
import Derived.Test.YtghdacijcnmhlaaDoorMgAJ
import Derived.Test.YtghdacijcnmhlaaDoorMgAY
import Derived.Test.YtghdacijcnmhlaaDoorMgBA
import Derived.Test.YtghdacijcnmhlaaDoorMgBC
namespace Go.Proofs.YtghdacijcnmhlaaDoor
open Go.RowKit
set_option linter.unusedVariables false
section
variable {P : Program} {n0 : Nat} {us : List Nat} {H0 : AHeap} {K : List AV → AHeap → Prop} {Hc : AHeap} {al : List Kd} {fr : List AV} {l : List Oper} {args : Array Operand} {tys : Array TypeId} {d : Option Tmp} {ty : TypeId} {pos : String} {after : Array Edge} {g : Option (Nat × Bool)}
end
end Go.Proofs.YtghdacijcnmhlaaDoor
namespace Go.Proofs.YtghdacijcnmhlaaDoor
open Go.RowKit
set_option linter.unusedVariables false
set_option linter.unusedSimpArgs false
section
variable {P : Program} {m : Nat} {G0 : Gh} {S : AHeap → Prop} {H0 : AHeap}
def ADL0 (P : Program) (m : Nat) (G0 : Gh) (ops : Array Oper) (S : AHeap → Prop) (H0 : AHeap) (K : List AV → AHeap → MS → Prop) : List Oper → List Kd → List Bool → List AV → AHeap → MS → Prop
  | [], _, _, fr, H, M => K fr H M
  | o :: l, al, fl, fr, H, M => ∃ x H' M', OpLk P m G0 ops S H0 o fr H H' M M' x (al.headD .free) (fl.headD false) ∧ ADL0 P m G0 ops S H0 K l al.tail fl.tail (putL fr o.dst x) H' M'
theorem opLk_strip {ops : List Oper} {n : Nat} (hn : topD (dsts ops) ≤ n) {o : Oper} {fr : List AV} {H H' : AHeap} {M M' : MS} {x : AV} {b : Kd} {f : Bool} (h : OpLk P m G0 (idB n) S H0 (strip (dsts ops) o) fr H H' M M' x b f) : OpLk P m G0 ops.toArray S H0 o fr H H' M M' x b f := by
  cases h with
  | skip _ e e1 e2 h2 => exact .skip _ e e1 e2 (by rw [← awanted_strip hn]; exact h2)
  | free x e1 e2 h1 h2 => exact .free _ e1 e2 (by rw [← awanted_strip hn]; exact h1) fun H => does_strip hn (h2 H)
  | look x e1 e2 h1 h2 => exact .look _ e1 e2 (by rw [← awanted_strip hn]; exact h1) fun H hS => does_strip hn (h2 H hS)
  | read x e1 e2 h1 h2 => exact .read _ e1 e2 (by rw [← awanted_strip hn]; exact h1) (does_strip hn h2)
  | turn x f hf h1 hl h2 =>
    refine .turn _ _ hf (by rw [← awanted_strip hn]; exact h1) hl fun Q G a w K hl hM hi hk => ?_
    rw [← wp_strip (dsts ops)]
    exact h2 Q G a w K hl hM hi ⟨hk.1, fun t ht => hk.2 t (by rw [← looks_strip hn]; exact ht)⟩
theorem ADL0_strip {ops : List Oper} {n : Nat} (hn : topD (dsts ops) ≤ n) {K : List AV → AHeap → MS → Prop} : ∀ {l : List Oper} {al : List Kd} {fl : List Bool} {fr : List AV} {H : AHeap} {M : MS}, ADL0 P m G0 (idB n) S H0 K (l.map (strip (dsts ops))) al fl fr H M → ADL0 P m G0 ops.toArray S H0 K l al fl fr H M
  | [], al, fl, fr, H, M, h => h
  | o :: l, al, fl, fr, H, M, h => by
    obtain ⟨x, H', M', h1, h2⟩ := h
    exact ⟨x, H', M', opLk_strip hn h1, ADL0_strip hn h2⟩
theorem ADL0.fns {ops : Array Oper} {K : List AV → AHeap → MS → Prop} : ∀ {l : List Oper} {al : List Kd} {fl : List Bool} {fr : List AV} {H : AHeap} {M : MS}, ADL0 P m G0 ops S H0 K l al fl fr H M →
    ∃ (X : Nat → AV) (F : Nat → List AV) (Hk : Nat → AHeap) (Mk : Nat → MS), F 0 = fr ∧ Hk 0 = H ∧ Mk 0 = M ∧ K (F l.length) (Hk l.length) (Mk l.length) ∧ ∀ j o, l[j]? = some o → OpLk P m G0 ops S H0 o (F j) (Hk j) (Hk (j + 1)) (Mk j) (Mk (j + 1)) (X j) (al.getD j .free) (fl.getD j false) ∧ F (j + 1) = putL (F j) o.dst (X j)
  | [], al, fl, fr, H, M, h => ⟨fun _ => uD, fun _ => fr, fun _ => H, fun _ => M, rfl, rfl, rfl, h, fun j o e => by simp at e⟩
  | o :: l, al, fl, fr, H, M, h => by
    obtain ⟨x, H', M', h1, h2⟩ := h
    obtain ⟨X, F, Hk, Mk, e1, e0, e2, e3, e4⟩ := ADL0.fns h2
    refine ⟨consF x X, consF fr F, consF H Hk, consF M Mk, rfl, rfl, rfl, e3, fun j o' e => ?_⟩
    cases j with
    | zero =>
      simp only [List.getElem?_cons_zero, Option.some.injEq] at e; subst e
      refine ⟨?_, e1⟩
      show OpLk P m G0 ops S H0 o fr H (Hk 0) M (Mk 0) x (al.getD 0 .free) (fl.getD 0 false)
      rw [e2, e0]
      cases al <;> cases fl <;> exact h1
    | succ j =>
      simp only [List.getElem?_cons_succ] at e
      have := e4 j o' e
      cases al <;> cases fl <;> exact this
def ADL (P : Program) (m : Nat) (S : AHeap → Prop) (H0 : AHeap) (K : List AV → AHeap → MS → Prop) (p : List Oper × List Kd × List Bool × List AV × AHeap × MS) : Prop := ∀ n, p.2.2.2.1.length ≤ n → ∀ G0, ADL0 P m G0 (idB n) S H0 K p.1 p.2.1 p.2.2.1 p.2.2.2.1 p.2.2.2.2.1 p.2.2.2.2.2
variable {tt : TT} {fr : List AV} {o : Oper} {l : List Oper} {al : List Kd} {fl : List Bool} {f0 : Bool} {K : List AV → AHeap → MS → Prop} {H : AHeap} {M : MS}
theorem ADL_nil (h : K fr H M) : ADL P m S H0 K ([], al, fl, fr, H, M) := fun n hn G0 => h
theorem ADL_id {p : List Oper × List Kd × List Bool × List AV × AHeap × MS} (h : ADL P m S H0 K p) : ADL P m S H0 K p := h
theorem ADL_free (hT : TyOK P tt) (hr : freeOp o.op = true) (hw : wantedS fr o = some true) (h : match aop tt ⟨fr, H⟩ o with | some (x, _) => ADL P m S H0 K (l, al, fl, putL fr o.dst x, H, M) | none => False) : ADL P m S H0 K (o :: l, .free :: al, false :: fl, fr, H, M) := fun n hn G0 => by
  cases hx : aop tt ⟨fr, H⟩ o with
  | none => rw [hx] at h; exact h.elim
  | some p =>
    obtain ⟨x, H'⟩ := p
    rw [hx] at h
    have := aop_ro (ro_of_free hr) hx
    subst this
    exact ⟨x, H', M, .free x rfl rfl (wanted_iff hn hw) fun H => does_aop hT (aop_free hr hx), h n (by show (putL _ _ _).length ≤ n; rw [putL_len]; exact hn) G0⟩
theorem ADL_look (hT : TyOK P tt) (hr : roOp o.op = true) (hw : wantedS fr o = some true) {x : AV} (hx : ∀ H, S H → aop tt ⟨fr, H⟩ o = some (x, H)) (h : ADL P m S H0 K (l, al, fl, putL fr o.dst x, H, M)) : ADL P m S H0 K (o :: l, .free :: al, true :: fl, fr, H, M) := fun n hn G0 =>
  ⟨x, H, M, .look x rfl rfl (wanted_iff hn hw) fun H hS => does_aop hT (hx H hS), h n (by show (putL _ _ _).length ≤ n; rw [putL_len]; exact hn) G0⟩
theorem ADL_callX {d : Option Tmp} {fo : Operand} {args : Array Operand} {tys : Array TypeId} {ty : TypeId} {pos : String} {after : Array Edge} {g : Option (Nat × Bool)} (hm : m ≤ H.length)
    (hw : wantedS fr ⟨d, .call { callee := .value fo, args := args, argTypes := tys }, ty, pos, after, g⟩ = some true)
    {f : FuncId} {first caps : List AV} (hf : AS.ev ⟨fr, H⟩ fo = .fn f first caps) {x : AV} {H' : AHeap} {M' : MS} (hc : SX P f (first ++ args.toList.map (AS.ev ⟨fr, H⟩) ++ caps) H M fun r H1 M1 => r = x ∧ H1 = H' ∧ M1 = M') (hlen : H.length ≤ H'.length) (hS : f0 = true → S H')
    (h : ADL P m S H0 K (l, al, fl, putL fr d x, H', M')) : ADL P m S H0 K (⟨d, .call { callee := .value fo, args := args, argTypes := tys }, ty, pos, after, g⟩ :: l, .chg :: al, f0 :: fl, fr, H, M) := fun n hn G0 => by
  refine ⟨x, H', M', .turn x f0 hS (wanted_iff hn hw) hlen fun Q G a w K hl hM hi hlk hk => ?_, h n (by show (putL _ _ _).length ≤ n; rw [putL_len]; exact hn) G0⟩
  have hops : ∀ y, y = fo ∨ y ∈ args.toList → y ∈ (Op.call { callee := .value fo, args := args, argTypes := tys }).operands := fun y hy => by
    simp only [Op.operands, Call.operands]
    rcases hy with rfl | hy
    · simp
    · simp [Array.mem_toList_iff.1 hy]
  have hfe := hlk.ev (H := H) (hops fo (.inl rfl))
  rw [hf] at hfe
  generalize hfv : a.eval fo = fv at hfe
  cases hfe with
  | fn _ _ _ vs us h1 h2 h3 h4 =>
    have hargs0 : ∀ l : List Operand, (∀ y ∈ l, y ∈ args.toList) → RL H.length G (l.map (AS.ev ⟨fr, H⟩)) (l.map a.eval) := by
      intro l hm
      induction l with
      | nil => exact RL.nil _ _
      | cons y l ih => exact RL.cons (hlk.ev (hops y (.inr (hm y (by simp))))) (ih fun z hz => hm z (by simp [hz]))
    have hargs := RL.append (RL.append ⟨h1, h3⟩ (hargs0 args.toList fun _ h => h)) ⟨h2, h4⟩
    have hrun : (execOp a.eval ⟨d, .call { callee := .value fo, args := args, argTypes := tys }, ty, pos, after, g⟩).run P w = .ok (.enter f (vs ++ args.toList.map a.eval ++ us).toArray) w := by
      have e : (vs ++ args.toList.map a.eval ++ us).toArray = vs.toArray ++ args.map a.eval ++ us.toArray := by
        apply Array.toList_inj.1; simp
      rw [e]
      simp [execOp, resolve, hfv, Deferred.ofValue, invoke, run_enter hc.callable]
    unfold Oper.wp
    rw [hrun]
    refine (hc.calls G0.kp G w _ hl.kp hM hi hargs).mono fun e w' hp => ?_
    obtain ⟨v, r, G', H1, M1, rfl, hle, hM', hn', hi', hx, rfl, rfl, rfl⟩ := hp
    exact hk G0.kp G' v w' ⟨_, hle.le hi.dom⟩ (leb_call hm hl hle) hM' hi' hx
def lookOK (ops : Array Oper) (n b : Nat) (al : List Kd) (fl : List Bool) : Bool :=
  decide (b ≤ n) && (decide (b = n) || (al.getD b .free).al) && ((List.range b).all fun q => !(al.getD q .free).al || fl.getD q false) && (decide (b = n) ||
  mkM ops (fun ms => (List.range n).all fun k => (al.getD k .free).al || !(fl.getD k false) || (decide (b < ops.size) && (ms.getD (ops.size - 1 - b) 0).testBit k)) ops.size 0 [])
theorem look_of {ops : Array Oper} {n b : Nat} {al : List Kd} {fl : List Bool} (h : lookOK ops n b al fl = true) :
    b ≤ n ∧ (b < n → (al.getD b .free).al = true) ∧ (∀ q, q < b → (al.getD q .free).al = true → fl.getD q false = true) ∧ ∀ k, k < n → (al.getD k .free).al = false → fl.getD k false = true → b < n → Anc ops b k := by
  unfold lookOK at h
  simp only [Bool.and_eq_true, Bool.or_eq_true, decide_eq_true_eq] at h
  obtain ⟨⟨⟨h1, h2⟩, h3⟩, h⟩ := h
  rw [List.all_eq_true] at h3
  refine ⟨h1, fun hb => h2.resolve_left (by omega), fun q hq ha => ?_, fun k hk ha hf hb => ?_⟩
  · have := h3 q (List.mem_range.2 hq)
    rw [ha] at this; simpa using this
  · obtain ⟨ms, hg, h⟩ := mkM_ok (fun r i hr => absurd hr (by omega)) (h.resolve_left (by omega))
    rw [List.all_eq_true] at h
    have := h k (List.mem_range.2 hk)
    rw [ha, hf] at this
    simp only [Bool.false_or, Bool.not_true, Bool.and_eq_true, decide_eq_true_eq] at this
    exact hg b k (by omega) (by rw [Nat.zero_add]; exact this.2)
theorem AX_drawLk {Q : Exit → XS → Prop} (S : AHeap → Prop) (b : Nat) (al : List Kd) (fl : List Bool) (hmx : P.follows .mixedOrders = true) {id : Nat} {ops : List Oper} (hord : ordOK ops.toArray ops.length al = true) (hlk : lookOK ops.toArray ops.length b al fl = true) (hS : S H)
    (h : ∀ (K : List AV → AHeap → MS → Prop), (∀ F H' M', m ≤ H'.length → Q .normal ⟨F, H', M'⟩ → K F H' M') → ADL P m S H K (ops.map (strip (dsts ops)), al, fl, fr, H, M)) : AX P m (.region id ops.toArray true) Q ⟨fr, H, M⟩ := fun G0 G a w hm hl0 hM hr => by
  have hsz : ops.toArray.size = ops.length := by simp
  have ord : Ord ops.toArray ops.toArray.size al := by rw [hsz]; exact ord_of hord
  obtain ⟨X, F, Hk, Mk, e1, e0, e2, e3, e4⟩ := (ADL0_strip (n := max fr.length (topD (dsts ops))) (Nat.le_max_right _ _) (h (fun F H' M' => Q .normal ⟨F, H', M'⟩) (fun _ _ _ _ h => h) (max fr.length (topD (dsts ops))) (Nat.le_max_left _ _) G0)).fns
  obtain ⟨l1, l2, l3, l4⟩ := look_of hlk
  have st : Steps5 P m G0 ops.toArray S b Hk al fl X F Mk := ⟨fun k o ho => by rw [e0]; exact e4 k o (by simpa using ho), by rw [e0]; exact hS, by rw [hsz]; exact l1, by rw [hsz]; exact l2, l3, fun k hk ha hf hb => l4 k (by rw [← hsz]; exact hk) ha hf (by rw [← hsz]; exact hb)⟩
  have hm0 : m ≤ (Hk 0).length := by rw [e0]; exact hm
  refine wp_region_any hmx ?_
  refine any5 (m := m) (G0 := G0) (S := S) (b := b) (fl := fl) (Hk := Hk) (X := X) (F := F) (Mk := Mk) ord st hm0 (R := PostX m G0 Q) (fun G' a' w' k1 k2 k3 => ⟨G', ⟨F ops.toArray.size, Hk ops.toArray.size, Mk ops.toArray.size⟩, k1, k2, Nat.le_trans hm0 (st.grow _ (Nat.le_refl _)), k3, by rw [hsz]; exact e3⟩) ops.toArray.size (Array.replicate ops.toArray.size false) a { w with drawn := w.drawn + 1 } G 0 ?_ ?_ hr.defers ?_ (Nat.zero_le _) ?_ (by rw [e0]; exact hr.inv.drew) hl0 (by rw [e2]; exact hM)
  · simp [left]
  · refine ⟨by simp, fun j hj => ?_⟩
    simp [Array.getD] at hj
  · rw [e0]
    refine ⟨by rw [e1]; have := hr.fr.1; simp at this; exact this.symm, fun t j ht hj hl => ?_, fun t ht _ => ?_⟩
    · simp [Array.getD] at hl
    · rw [e1, arr_getD]; exact hr.fr.getD t
  · intro j hj ha
    simp [Array.getD]
end
end Go.Proofs.YtghdacijcnmhlaaDoor
namespace Go.Proofs.YtghdacijcnmhlaaDoor
open Go.RowKit Go.Lib
set_option linter.unusedVariables false
set_option linter.unusedSimpArgs false
def dz (m : Nat) : List UInt8 := if m = 0 then [] else decDigits m
theorem dz_step {m : Nat} (h : m ≠ 0) : dz m = dz (m / 10) ++ [UInt8.ofNat (48 + m % 10)] := by
  unfold dz
  rw [if_neg h, decDigits]
  by_cases h1 : m < 10
  · rw [dif_pos h1, if_pos (by omega), show m % 10 = m by omega]; rfl
  · rw [dif_neg h1, if_neg (by omega)]
theorem dz_len {m : Nat} (h : m < 18446744073709551616) : (dz m).length ≤ 20 := by
  unfold dz
  by_cases h0 : m = 0
  · rw [if_pos h0]; exact Nat.zero_le _
  · rw [if_neg h0, decDigits_length]
    have := Lib.numDigits_eq m (by omega) h
    split at this <;> omega
theorem ba_mk (l : List UInt8) : (⟨l.toArray⟩ : ByteArray) = ba l := rfl
theorem ba_app (a b : List UInt8) : ba a ++ ba b = ba (a ++ b) := by
  apply ByteArray.ext
  rw [ByteArray.data_append]
  show a.toArray ++ b.toArray = (a ++ b).toArray
  simp
theorem tm_neg (m : Nat) : Int.tmod (-(m : Int)) 10 = -((m % 10 : Nat) : Int) := by rw [Int.neg_tmod]; rfl
theorem td_neg (m : Nat) : Int.tdiv (-(m : Int)) 10 = -((m / 10 : Nat) : Int) := by rw [Int.neg_tdiv]; rfl
theorem itoa_dz {n : Int} (h : n ≠ 0) : itoa n = (if n < 0 then [45] else []) ++ dz n.natAbs := by
  unfold itoa dz
  rw [if_neg (by omega : ¬ n.natAbs = 0)]
  by_cases h1 : n < 0
  · rw [if_pos h1, if_pos h1]; rfl
  · rw [if_neg h1, if_neg h1, show n.toNat = n.natAbs by omega]; rfl
theorem We3caa {A B : Prop} (h9 : B) (w : B → A := by (intro h9; (repeat intro K hK); refine ⟨?_⟩; (repeat (first | (first | (with_reducible first | refine AX_block ?_ | refine AX_skip ?_ | refine AX_exit ?_ | refine AX_ret ?_ | refine AX_ift ?_ | refine AX_iff ?_ | refine AX_seq_k (fun K hK => ?_) | refine ContX.use (by assumption) ?_) | simp only [thenX, inBlockX, if_true, if_false, reduceCtorEq]) | (first | ((with_reducible refine XOP tyOK ?_); simp (disch := omega) only [go_sem , Int.neg_neg, hs1, hs2, hs3, hs4, hs5, ba_mk, ba_app, ba_size, List.cons_append, List.nil_append, List.length_cons, List.length_nil]; (with_reducible refine XRes_id ?_)) | (with_reducible refine XSK ?_)) | ((with_reducible refine XRes_nil ?_); refine hK _ ?_; clear hK K) | ((with_reducible refine AX_reg0 fun K hK => ?_); simp only [go_sem]) | (first | (refine XRes_bs (e := 5) [c] rfl rfl rfl rfl (by kernel_rfl) (by kernel_rfl) (by kernel_rfl) ?_; (simp only [putL, List.set_cons_succ, List.set_cons_zero]))))); refine Wk.o ?_; (repeat revert hK K); exact h9)) : A := w h9
set_option maxRecDepth 100000 in
set_option maxHeartbeats 4000000 in
theorem pf_rDigits (n : Int) (h0 : -9223372036854775808 ≤ n) (h1 : n ≤ 9223372036854775807) : PF Tryd.prog 34 [lt (.int .i64 n)] fun r H' => r = lt (.string (ba (itoa n))) ∧ H' = [] := by
  refine SF.forgetAll ?_
  have hs1 := trivial; have hs2 := trivial; have hs3 := trivial; have hs4 := trivial; have hs5 := trivial; have c := (0 : UInt8)
  by_cases hz : n = 0
  · subst hz
    (refine SF_of_bodyX (aload tt) (aload_ok tyOK) Tryd.func34 rfl (by kernel_rfl) ?_; simp only [Tryd.ntmps34, List.length_cons, List.length_nil, Nat.reduceAdd, Nat.reduceSub, List.replicate_succ, List.replicate_zero, List.cons_append, List.nil_append])
    (refine Wk.o ?_; (repeat revert hK K); refine We3caa ?_; (repeat intro K hK); refine ⟨?_⟩)
    (simp only [bodyX]; refine ⟨_, by simp only [aresults, aresult, XS.as, Tryd.results34, aload, go_sem, Option.bind_some]; rfl, ?_⟩)
    have e0 : itoa 0 = [48] := by unfold itoa; rw [if_neg (by omega), show (0 : Int).toNat = 0 from rfl, decDigits_one (by omega)]; rfl
    exact ⟨.iv _, by rw [e0], trivial⟩
  · (refine SF_of_bodyX (aload tt) (aload_ok tyOK) Tryd.func34 rfl (by kernel_rfl) ?_; simp only [Tryd.ntmps34, List.length_cons, List.length_nil, Nat.reduceAdd, Nat.reduceSub, List.replicate_succ, List.replicate_zero, List.cons_append, List.nil_append])
    (refine Wk.o ?_; (repeat revert hK K); refine We3caa ?_; (repeat intro K hK); refine ⟨?_⟩)
    (refine AWH (σ := Int × List UInt8) [9, 10, 13, 14, 5, 15, 16, 17, 18, 19, 20, 21, 22, 23, 24, 25, 11, 12] (fun (x, out) => [(4, .iv (.lit (.int .i64 x))), (3, .iv (.lit (.string (ba out))))]) (fun (x, out) => []) (fun (x, out) => []) (fun (x, out) => dz n.natAbs = dz x.natAbs ++ out ∧ (n < 0 → x ≤ 0) ∧ (0 < n → 0 ≤ x) ∧ -9223372036854775808 ≤ x ∧ x ≤ 9223372036854775807) (fun (x, out) => x.natAbs) (n, []) (by first | exact ⟨by rw [List.append_nil], fun h => by omega, fun h => by omega, h0, h1⟩) ?_; rintro ⟨x, out⟩ d fr hfr ⟨h2, h3, h4, h5, h6⟩; simp only [updS, deadS, List.set_cons_succ, List.set_cons_zero, lint] at hfr; subst hfr; (try dsimp only))
    have hol : out.length ≤ 20 := by
      have h7 := dz_len (m := n.natAbs) (by omega)
      rw [h2, List.length_append] at h7; omega
    by_cases hx : x = 0
    · have he : out = dz n.natAbs := by rw [h2, hx]; rfl
      by_cases hn : n < 0
      · have hs1 : (⟨#[45]⟩ : ByteArray) = ba [45] := rfl
        (refine Wk.o ?_; (repeat revert hK K); refine We3caa ?_; (repeat intro K hK); refine ⟨?_⟩)
        (simp only [bodyX]; refine ⟨_, by simp only [aresults, aresult, XS.as, Tryd.results34, aload, go_sem, Option.bind_some]; rfl, ?_⟩)
        exact ⟨.iv _, by rw [itoa_dz hz, if_pos hn, he]; rfl, trivial⟩
      · (refine Wk.o ?_; (repeat revert hK K); refine We3caa ?_; (repeat intro K hK); refine ⟨?_⟩)
        (simp only [bodyX]; refine ⟨_, by simp only [aresults, aresult, XS.as, Tryd.results34, aload, go_sem, Option.bind_some]; rfl, ?_⟩)
        exact ⟨.iv _, by rw [itoa_dz hz, if_neg hn, he]; rfl, trivial⟩
    · obtain ⟨m, hm⟩ : ∃ m : Nat, m = x.natAbs := ⟨_, rfl⟩
      have hst := dz_step (m := m) (by omega)
      rw [hm] at hst
      obtain ⟨r, hr⟩ : ∃ r : Nat, r = m % 10 := ⟨_, rfl⟩
      obtain ⟨y, hy⟩ : ∃ y : Nat, y = m / 10 := ⟨_, rfl⟩
      rw [← hm, ← hr, ← hy] at hst
      rw [← hm] at h2
      generalize hc : UInt8.ofNat (48 + r) = c at *
      have hct : c.toNat = 48 + r := by rw [← hc, UInt8.toNat_ofNat']; omega
      have hI2 : dz n.natAbs = dz y ++ (c :: out) := by rw [h2, hst, List.append_assoc]; rfl
      have hs5 : (48 : Int) + (r : Int) = (c.toNat : Int) := by omega
      have hrb : r < 10 := by omega
      have hs4 : IntKind.u8.wrap (c.toNat : Int) = (c.toNat : Int) := by rw [IntKind.wrap_u8]; omega
      by_cases hneg : x < 0
      · have hx2 : x = -(m : Int) := by omega
        have hs1 : Int.tmod x 10 = -(r : Int) := by rw [hx2, tm_neg, hr]
        have hs2 : Int.tdiv x 10 = -(y : Int) := by rw [hx2, td_neg, hy]
        have hI3 : dz n.natAbs = dz (-(y : Int)).natAbs ++ (c :: out) ∧ (n < 0 → -(y : Int) ≤ 0) ∧ (0 < n → 0 ≤ -(y : Int)) ∧ -9223372036854775808 ≤ -(y : Int) ∧ -(y : Int) ≤ 9223372036854775807 := ⟨by rw [show (-(y : Int)).natAbs = y by omega]; exact hI2, fun _ => by omega, fun h => by omega, by omega, by omega⟩
        by_cases hr0 : r = 0
        · have hs5 : (48 : Int) + -(r : Int) = (c.toNat : Int) := by omega
          (refine Wk.o ?_; (repeat revert hK K); refine We3caa ?_; (repeat intro K hK); refine ⟨?_⟩)
          exact whx_ren [] (-(y : Int), c :: out) hI3 (by (first | omega | (dsimp only; omega) | (simp only; omega))) rfl (by decide) (by decide) (by (simp (disch := omega) only [go_sem, lint , Int.neg_neg, hs1, hs2, hs3, hs4, hs5, ba_mk, ba_app, ba_size, List.cons_append, List.nil_append, List.length_cons, List.length_nil])) (by (simp (disch := omega) only [go_sem, lint , Int.neg_neg, hs1, hs2, hs3, hs4, hs5, ba_mk, ba_app, ba_size, List.cons_append, List.nil_append, List.length_cons, List.length_nil])) (by (simp (disch := omega) only [go_sem, lint , Int.neg_neg, hs1, hs2, hs3, hs4, hs5, ba_mk, ba_app, ba_size, List.cons_append, List.nil_append, List.length_cons, List.length_nil])) (fun d => by first | ((simp (disch := omega) only [go_sem, lint , Int.neg_neg, hs1, hs2, hs3, hs4, hs5, ba_mk, ba_app, ba_size, List.cons_append, List.nil_append, List.length_cons, List.length_nil]); done) | ((simp (disch := omega) only [go_sem, lint , Int.neg_neg, hs1, hs2, hs3, hs4, hs5, ba_mk, ba_app, ba_size, List.cons_append, List.nil_append, List.length_cons, List.length_nil]); rfl))
        · (refine Wk.o ?_; (repeat revert hK K); refine We3caa ?_; (repeat intro K hK); refine ⟨?_⟩)
          exact whx_ren [] (-(y : Int), c :: out) hI3 (by (first | omega | (dsimp only; omega) | (simp only; omega))) rfl (by decide) (by decide) (by (simp (disch := omega) only [go_sem, lint , Int.neg_neg, hs1, hs2, hs3, hs4, hs5, ba_mk, ba_app, ba_size, List.cons_append, List.nil_append, List.length_cons, List.length_nil])) (by (simp (disch := omega) only [go_sem, lint , Int.neg_neg, hs1, hs2, hs3, hs4, hs5, ba_mk, ba_app, ba_size, List.cons_append, List.nil_append, List.length_cons, List.length_nil])) (by (simp (disch := omega) only [go_sem, lint , Int.neg_neg, hs1, hs2, hs3, hs4, hs5, ba_mk, ba_app, ba_size, List.cons_append, List.nil_append, List.length_cons, List.length_nil])) (fun d => by first | ((simp (disch := omega) only [go_sem, lint , Int.neg_neg, hs1, hs2, hs3, hs4, hs5, ba_mk, ba_app, ba_size, List.cons_append, List.nil_append, List.length_cons, List.length_nil]); done) | ((simp (disch := omega) only [go_sem, lint , Int.neg_neg, hs1, hs2, hs3, hs4, hs5, ba_mk, ba_app, ba_size, List.cons_append, List.nil_append, List.length_cons, List.length_nil]); rfl))
      · have hx2 : x = (m : Int) := by omega
        have hs1 : Int.tmod x 10 = (r : Int) := by rw [hx2, hr]; rfl
        have hs2 : Int.tdiv x 10 = (y : Int) := by rw [hx2, hy]; rfl
        have hI3 : dz n.natAbs = dz (y : Int).natAbs ++ (c :: out) ∧ (n < 0 → (y : Int) ≤ 0) ∧ (0 < n → 0 ≤ (y : Int)) ∧ -9223372036854775808 ≤ (y : Int) ∧ (y : Int) ≤ 9223372036854775807 := ⟨by rw [show (y : Int).natAbs = y by omega]; exact hI2, fun _ => by omega, fun h => by omega, by omega, by omega⟩
        (refine Wk.o ?_; (repeat revert hK K); refine We3caa ?_; (repeat intro K hK); refine ⟨?_⟩)
        exact whx_ren [] ((y : Int), c :: out) hI3 (by (first | omega | (dsimp only; omega) | (simp only; omega))) rfl (by decide) (by decide) (by (simp (disch := omega) only [go_sem, lint , Int.neg_neg, hs1, hs2, hs3, hs4, hs5, ba_mk, ba_app, ba_size, List.cons_append, List.nil_append, List.length_cons, List.length_nil])) (by (simp (disch := omega) only [go_sem, lint , Int.neg_neg, hs1, hs2, hs3, hs4, hs5, ba_mk, ba_app, ba_size, List.cons_append, List.nil_append, List.length_cons, List.length_nil])) (by (simp (disch := omega) only [go_sem, lint , Int.neg_neg, hs1, hs2, hs3, hs4, hs5, ba_mk, ba_app, ba_size, List.cons_append, List.nil_append, List.length_cons, List.length_nil])) (fun d => by first | ((simp (disch := omega) only [go_sem, lint , Int.neg_neg, hs1, hs2, hs3, hs4, hs5, ba_mk, ba_app, ba_size, List.cons_append, List.nil_append, List.length_cons, List.length_nil]); done) | ((simp (disch := omega) only [go_sem, lint , Int.neg_neg, hs1, hs2, hs3, hs4, hs5, ba_mk, ba_app, ba_size, List.cons_append, List.nil_append, List.length_cons, List.length_nil]); rfl))
end Go.Proofs.YtghdacijcnmhlaaDoor
namespace Go.Proofs.YtghdacijcnmhlaaDoor
open Go.RowKit Go.Lib
set_option linter.unusedVariables false
set_option linter.unusedSimpArgs false
def nk (f : Nat) (m : List UInt8) (k : Nat) : Int := if f = 1 then -(dv 0 (m.take k) : Int) else dv 0 (m.take k)
end Go.Proofs.YtghdacijcnmhlaaDoor
