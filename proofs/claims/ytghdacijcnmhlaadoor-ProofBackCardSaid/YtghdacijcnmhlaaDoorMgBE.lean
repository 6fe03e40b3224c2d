import Derived.Test.YtghdacijcnmhlaaDoorMgBD
import Derived.Test.YtghdacijcnmhlaaDoorMgAM
import Derived.Test.YtghdacijcnmhlaaDoorMgAN
import Derived.Test.YtghdacijcnmhlaaDoorMgAJ
import Derived.Test.YtghdacijcnmhlaaDoorMgAY
import Derived.Test.YtghdacijcnmhlaaDoorMgBA
import Derived.Test.YtghdacijcnmhlaaDoorMgBC
namespace Go.Proofs.YtghdacijcnmhlaaDoor
open Go.RowKit
set_option linter.unusedVariables false
section
variable {P : Program} {n0 : Nat} {us : List Nat} {H0 : AHeap} {K : List AV → AHeap → Prop} {Hc : AHeap} {al : List Kd} {fr : List AV} {l : List Oper} {args : Array Operand} {tys : Array TypeId} {d : Option Tmp} {ty : TypeId} {pos : String} {after : Array Edge} {g : Option (Nat × Bool)}
end
end Go.Proofs.YtghdacijcnmhlaaDoor
namespace Go.Proofs.YtghdacijcnmhlaaDoor
open Go.RowKit
set_option linter.unusedVariables false
set_option linter.unusedSimpArgs false
section
variable {P : Program} {m : Nat} {G0 : Gh} {S : AHeap → Prop} {H0 : AHeap}
def ADL0 (P : Program) (m : Nat) (G0 : Gh) (ops : Array Oper) (S : AHeap → Prop) (H0 : AHeap) (K : List AV → AHeap → MS → Prop) : List Oper → List Kd → List Bool → List AV → AHeap → MS → Prop
  | [], _, _, fr, H, M => K fr H M
  | o :: l, al, fl, fr, H, M => ∃ x H' M', OpLk P m G0 ops S H0 o fr H H' M M' x (al.headD .free) (fl.headD false) ∧ ADL0 P m G0 ops S H0 K l al.tail fl.tail (putL fr o.dst x) H' M'
theorem opLk_strip {ops : List Oper} {n : Nat} (hn : topD (dsts ops) ≤ n) {o : Oper} {fr : List AV} {H H' : AHeap} {M M' : MS} {x : AV} {b : Kd} {f : Bool} (h : OpLk P m G0 (idB n) S H0 (strip (dsts ops) o) fr H H' M M' x b f) : OpLk P m G0 ops.toArray S H0 o fr H H' M M' x b f := by
  cases h with
  | skip _ e e1 e2 h2 => exact .skip _ e e1 e2 (by rw [← awanted_strip hn]; exact h2)
  | free x e1 e2 h1 h2 => exact .free _ e1 e2 (by rw [← awanted_strip hn]; exact h1) fun H => does_strip hn (h2 H)
  | look x e1 e2 h1 h2 => exact .look _ e1 e2 (by rw [← awanted_strip hn]; exact h1) fun H hS => does_strip hn (h2 H hS)
  | read x e1 e2 h1 h2 => exact .read _ e1 e2 (by rw [← awanted_strip hn]; exact h1) (does_strip hn h2)
  | turn x f hf h1 hl h2 =>
    refine .turn _ _ hf (by rw [← awanted_strip hn]; exact h1) hl fun Q G a w K hl hM hi hk => ?_
    rw [← wp_strip (dsts ops)]
    exact h2 Q G a w K hl hM hi ⟨hk.1, fun t ht => hk.2 t (by rw [← looks_strip hn]; exact ht)⟩
theorem ADL0_strip {ops : List Oper} {n : Nat} (hn : topD (dsts ops) ≤ n) {K : List AV → AHeap → MS → Prop} : ∀ {l : List Oper} {al : List Kd} {fl : List Bool} {fr : List AV} {H : AHeap} {M : MS}, ADL0 P m G0 (idB n) S H0 K (l.map (strip (dsts ops))) al fl fr H M → ADL0 P m G0 ops.toArray S H0 K l al fl fr H M
  | [], al, fl, fr, H, M, h => h
  | o :: l, al, fl, fr, H, M, h => by
    obtain ⟨x, H', M', h1, h2⟩ := h
    exact ⟨x, H', M', opLk_strip hn h1, ADL0_strip hn h2⟩
theorem ADL0.fns {ops : Array Oper} {K : List AV → AHeap → MS → Prop} : ∀ {l : List Oper} {al : List Kd} {fl : List Bool} {fr : List AV} {H : AHeap} {M : MS}, ADL0 P m G0 ops S H0 K l al fl fr H M →
    ∃ (X : Nat → AV) (F : Nat → List AV) (Hk : Nat → AHeap) (Mk : Nat → MS), F 0 = fr ∧ Hk 0 = H ∧ Mk 0 = M ∧ K (F l.length) (Hk l.length) (Mk l.length) ∧ ∀ j o, l[j]? = some o → OpLk P m G0 ops S H0 o (F j) (Hk j) (Hk (j + 1)) (Mk j) (Mk (j + 1)) (X j) (al.getD j .free) (fl.getD j false) ∧ F (j + 1) = putL (F j) o.dst (X j)
  | [], al, fl, fr, H, M, h => ⟨fun _ => uD, fun _ => fr, fun _ => H, fun _ => M, rfl, rfl, rfl, h, fun j o e => by simp at e⟩
  | o :: l, al, fl, fr, H, M, h => by
    obtain ⟨x, H', M', h1, h2⟩ := h
    obtain ⟨X, F, Hk, Mk, e1, e0, e2, e3, e4⟩ := ADL0.fns h2
    refine ⟨consF x X, consF fr F, consF H Hk, consF M Mk, rfl, rfl, rfl, e3, fun j o' e => ?_⟩
    cases j with
    | zero =>
      simp only [List.getElem?_cons_zero, Option.some.injEq] at e; subst e
      refine ⟨?_, e1⟩
      show OpLk P m G0 ops S H0 o fr H (Hk 0) M (Mk 0) x (al.getD 0 .free) (fl.getD 0 false)
      rw [e2, e0]
      cases al <;> cases fl <;> exact h1
    | succ j =>
      simp only [List.getElem?_cons_succ] at e
      have := e4 j o' e
      cases al <;> cases fl <;> exact this
def ADL (P : Program) (m : Nat) (S : AHeap → Prop) (H0 : AHeap) (K : List AV → AHeap → MS → Prop) (p : List Oper × List Kd × List Bool × List AV × AHeap × MS) : Prop := ∀ n, p.2.2.2.1.length ≤ n → ∀ G0, ADL0 P m G0 (idB n) S H0 K p.1 p.2.1 p.2.2.1 p.2.2.2.1 p.2.2.2.2.1 p.2.2.2.2.2
variable {tt : TT} {fr : List AV} {o : Oper} {l : List Oper} {al : List Kd} {fl : List Bool} {f0 : Bool} {K : List AV → AHeap → MS → Prop} {H : AHeap} {M : MS}
theorem ADL_nil (h : K fr H M) : ADL P m S H0 K ([], al, fl, fr, H, M) := fun n hn G0 => h
theorem ADL_id {p : List Oper × List Kd × List Bool × List AV × AHeap × MS} (h : ADL P m S H0 K p) : ADL P m S H0 K p := h
theorem ADL_free (hT : TyOK P tt) (hr : freeOp o.op = true) (hw : wantedS fr o = some true) (h : match aop tt ⟨fr, H⟩ o with | some (x, _) => ADL P m S H0 K (l, al, fl, putL fr o.dst x, H, M) | none => False) : ADL P m S H0 K (o :: l, .free :: al, false :: fl, fr, H, M) := fun n hn G0 => by
  cases hx : aop tt ⟨fr, H⟩ o with
  | none => rw [hx] at h; exact h.elim
  | some p =>
    obtain ⟨x, H'⟩ := p
    rw [hx] at h
    have := aop_ro (ro_of_free hr) hx
    subst this
    exact ⟨x, H', M, .free x rfl rfl (wanted_iff hn hw) fun H => does_aop hT (aop_free hr hx), h n (by show (putL _ _ _).length ≤ n; rw [putL_len]; exact hn) G0⟩
theorem ADL_chg (hT : TyOK P tt) (hm : m ≤ H.length) (hw : wantedS fr o = some true) (h : match aop tt ⟨fr, H⟩ o with | some (x, H') => H.length ≤ H'.length ∧ (f0 = true → S H') ∧ ADL P m S H0 K (l, al, fl, putL fr o.dst x, H', M) | none => False) : ADL P m S H0 K (o :: l, .chg :: al, f0 :: fl, fr, H, M) := fun n hn G0 => by
  cases hx : aop tt ⟨fr, H⟩ o with
  | none => rw [hx] at h; exact h.elim
  | some p =>
    obtain ⟨x, H'⟩ := p
    rw [hx] at h
    exact ⟨x, H', M, .turn x f0 h.2.1 (wanted_iff hn hw) h.1 fun Q G a w K hl hM hi hlk hk => does_aop hT hx Q G a w K hi hlk fun G' v w' k1 k2 k3 k4 => hk G.kp G' v w' ⟨_, k1⟩ (hl.trans (k1.leb hm)) (hM.leb (k1.leb hm)) k3 k4, h.2.2 n (by show (putL _ _ _).length ≤ n; rw [putL_len]; exact hn) G0⟩
theorem ADL_look (hT : TyOK P tt) (hr : roOp o.op = true) (hw : wantedS fr o = some true) {x : AV} (hx : ∀ H, S H → aop tt ⟨fr, H⟩ o = some (x, H)) (h : ADL P m S H0 K (l, al, fl, putL fr o.dst x, H, M)) : ADL P m S H0 K (o :: l, .free :: al, true :: fl, fr, H, M) := fun n hn G0 =>
  ⟨x, H, M, .look x rfl rfl (wanted_iff hn hw) fun H hS => does_aop hT (hx H hS), h n (by show (putL _ _ _).length ≤ n; rw [putL_len]; exact hn) G0⟩
theorem ADL_callX {d : Option Tmp} {fo : Operand} {args : Array Operand} {tys : Array TypeId} {ty : TypeId} {pos : String} {after : Array Edge} {g : Option (Nat × Bool)} (hm : m ≤ H.length)
    (hw : wantedS fr ⟨d, .call { callee := .value fo, args := args, argTypes := tys }, ty, pos, after, g⟩ = some true)
    {f : FuncId} {first caps : List AV} (hf : AS.ev ⟨fr, H⟩ fo = .fn f first caps) {x : AV} {H' : AHeap} {M' : MS} (hc : SX P f (first ++ args.toList.map (AS.ev ⟨fr, H⟩) ++ caps) H M fun r H1 M1 => r = x ∧ H1 = H' ∧ M1 = M') (hlen : H.length ≤ H'.length) (hS : f0 = true → S H')
    (h : ADL P m S H0 K (l, al, fl, putL fr d x, H', M')) : ADL P m S H0 K (⟨d, .call { callee := .value fo, args := args, argTypes := tys }, ty, pos, after, g⟩ :: l, .chg :: al, f0 :: fl, fr, H, M) := fun n hn G0 => by
  refine ⟨x, H', M', .turn x f0 hS (wanted_iff hn hw) hlen fun Q G a w K hl hM hi hlk hk => ?_, h n (by show (putL _ _ _).length ≤ n; rw [putL_len]; exact hn) G0⟩
  have hops : ∀ y, y = fo ∨ y ∈ args.toList → y ∈ (Op.call { callee := .value fo, args := args, argTypes := tys }).operands := fun y hy => by
    simp only [Op.operands, Call.operands]
    rcases hy with rfl | hy
    · simp
    · simp [Array.mem_toList_iff.1 hy]
  have hfe := hlk.ev (H := H) (hops fo (.inl rfl))
  rw [hf] at hfe
  generalize hfv : a.eval fo = fv at hfe
  cases hfe with
  | fn _ _ _ vs us h1 h2 h3 h4 =>
    have hargs0 : ∀ l : List Operand, (∀ y ∈ l, y ∈ args.toList) → RL H.length G (l.map (AS.ev ⟨fr, H⟩)) (l.map a.eval) := by
      intro l hm
      induction l with
      | nil => exact RL.nil _ _
      | cons y l ih => exact RL.cons (hlk.ev (hops y (.inr (hm y (by simp))))) (ih fun z hz => hm z (by simp [hz]))
    have hargs := RL.append (RL.append ⟨h1, h3⟩ (hargs0 args.toList fun _ h => h)) ⟨h2, h4⟩
    have hrun : (execOp a.eval ⟨d, .call { callee := .value fo, args := args, argTypes := tys }, ty, pos, after, g⟩).run P w = .ok (.enter f (vs ++ args.toList.map a.eval ++ us).toArray) w := by
      have e : (vs ++ args.toList.map a.eval ++ us).toArray = vs.toArray ++ args.map a.eval ++ us.toArray := by
        apply Array.toList_inj.1; simp
      rw [e]
      simp [execOp, resolve, hfv, Deferred.ofValue, invoke, run_enter hc.callable]
    unfold Oper.wp
    rw [hrun]
    refine (hc.calls G0.kp G w _ hl.kp hM hi hargs).mono fun e w' hp => ?_
    obtain ⟨v, r, G', H1, M1, rfl, hle, hM', hn', hi', hx, rfl, rfl, rfl⟩ := hp
    exact hk G0.kp G' v w' ⟨_, hle.le hi.dom⟩ (leb_call hm hl hle) hM' hi' hx
def lookOK (ops : Array Oper) (n b : Nat) (al : List Kd) (fl : List Bool) : Bool :=
  decide (b ≤ n) && (decide (b = n) || (al.getD b .free).al) && ((List.range b).all fun q => !(al.getD q .free).al || fl.getD q false) && (decide (b = n) ||
  mkM ops (fun ms => (List.range n).all fun k => (al.getD k .free).al || !(fl.getD k false) || (decide (b < ops.size) && (ms.getD (ops.size - 1 - b) 0).testBit k)) ops.size 0 [])
theorem look_of {ops : Array Oper} {n b : Nat} {al : List Kd} {fl : List Bool} (h : lookOK ops n b al fl = true) :
    b ≤ n ∧ (b < n → (al.getD b .free).al = true) ∧ (∀ q, q < b → (al.getD q .free).al = true → fl.getD q false = true) ∧ ∀ k, k < n → (al.getD k .free).al = false → fl.getD k false = true → b < n → Anc ops b k := by
  unfold lookOK at h
  simp only [Bool.and_eq_true, Bool.or_eq_true, decide_eq_true_eq] at h
  obtain ⟨⟨⟨h1, h2⟩, h3⟩, h⟩ := h
  rw [List.all_eq_true] at h3
  refine ⟨h1, fun hb => h2.resolve_left (by omega), fun q hq ha => ?_, fun k hk ha hf hb => ?_⟩
  · have := h3 q (List.mem_range.2 hq)
    rw [ha] at this; simpa using this
  · obtain ⟨ms, hg, h⟩ := mkM_ok (fun r i hr => absurd hr (by omega)) (h.resolve_left (by omega))
    rw [List.all_eq_true] at h
    have := h k (List.mem_range.2 hk)
    rw [ha, hf] at this
    simp only [Bool.false_or, Bool.not_true, Bool.and_eq_true, decide_eq_true_eq] at this
    exact hg b k (by omega) (by rw [Nat.zero_add]; exact this.2)
theorem AX_drawLk {Q : Exit → XS → Prop} (S : AHeap → Prop) (b : Nat) (al : List Kd) (fl : List Bool) (hmx : P.follows .mixedOrders = true) {id : Nat} {ops : List Oper} (hord : ordOK ops.toArray ops.length al = true) (hlk : lookOK ops.toArray ops.length b al fl = true) (hS : S H)
    (h : ∀ (K : List AV → AHeap → MS → Prop), (∀ F H' M', m ≤ H'.length → Q .normal ⟨F, H', M'⟩ → K F H' M') → ADL P m S H K (ops.map (strip (dsts ops)), al, fl, fr, H, M)) : AX P m (.region id ops.toArray true) Q ⟨fr, H, M⟩ := fun G0 G a w hm hl0 hM hr => by
  have hsz : ops.toArray.size = ops.length := by simp
  have ord : Ord ops.toArray ops.toArray.size al := by rw [hsz]; exact ord_of hord
  obtain ⟨X, F, Hk, Mk, e1, e0, e2, e3, e4⟩ := (ADL0_strip (n := max fr.length (topD (dsts ops))) (Nat.le_max_right _ _) (h (fun F H' M' => Q .normal ⟨F, H', M'⟩) (fun _ _ _ _ h => h) (max fr.length (topD (dsts ops))) (Nat.le_max_left _ _) G0)).fns
  obtain ⟨l1, l2, l3, l4⟩ := look_of hlk
  have st : Steps5 P m G0 ops.toArray S b Hk al fl X F Mk := ⟨fun k o ho => by rw [e0]; exact e4 k o (by simpa using ho), by rw [e0]; exact hS, by rw [hsz]; exact l1, by rw [hsz]; exact l2, l3, fun k hk ha hf hb => l4 k (by rw [← hsz]; exact hk) ha hf (by rw [← hsz]; exact hb)⟩
  have hm0 : m ≤ (Hk 0).length := by rw [e0]; exact hm
  refine wp_region_any hmx ?_
  refine any5 (m := m) (G0 := G0) (S := S) (b := b) (fl := fl) (Hk := Hk) (X := X) (F := F) (Mk := Mk) ord st hm0 (R := PostX m G0 Q) (fun G' a' w' k1 k2 k3 => ⟨G', ⟨F ops.toArray.size, Hk ops.toArray.size, Mk ops.toArray.size⟩, k1, k2, Nat.le_trans hm0 (st.grow _ (Nat.le_refl _)), k3, by rw [hsz]; exact e3⟩) ops.toArray.size (Array.replicate ops.toArray.size false) a { w with drawn := w.drawn + 1 } G 0 ?_ ?_ hr.defers ?_ (Nat.zero_le _) ?_ (by rw [e0]; exact hr.inv.drew) hl0 (by rw [e2]; exact hM)
  · simp [left]
  · refine ⟨by simp, fun j hj => ?_⟩
    simp [Array.getD] at hj
  · rw [e0]
    refine ⟨by rw [e1]; have := hr.fr.1; simp at this; exact this.symm, fun t j ht hj hl => ?_, fun t ht _ => ?_⟩
    · simp [Array.getD] at hl
    · rw [e1, arr_getD]; exact hr.fr.getD t
  · intro j hj ha
    simp [Array.getD]
end
end Go.Proofs.YtghdacijcnmhlaaDoor
namespace Go.Proofs.YtghdacijcnmhlaaDoor
open Go.RowKit Go.Lib
set_option linter.unusedVariables false
set_option linter.unusedSimpArgs false
def dz (m : Nat) : List UInt8 := if m = 0 then [] else decDigits m
theorem dz_step {m : Nat} (h : m ≠ 0) : dz m = dz (m / 10) ++ [UInt8.ofNat (48 + m % 10)] := by
  unfold dz
  rw [if_neg h, decDigits]
  by_cases h1 : m < 10
  · rw [dif_pos h1, if_pos (by omega), show m % 10 = m by omega]; rfl
  · rw [dif_neg h1, if_neg (by omega)]
theorem dz_len {m : Nat} (h : m < 18446744073709551616) : (dz m).length ≤ 20 := by
  unfold dz
  by_cases h0 : m = 0
  · rw [if_pos h0]; exact Nat.zero_le _
  · rw [if_neg h0, decDigits_length]
    have := Lib.numDigits_eq m (by omega) h
    split at this <;> omega
theorem ba_mk (l : List UInt8) : (⟨l.toArray⟩ : ByteArray) = ba l := rfl
theorem ba_app (a b : List UInt8) : ba a ++ ba b = ba (a ++ b) := by
  apply ByteArray.ext
  rw [ByteArray.data_append]
  show a.toArray ++ b.toArray = (a ++ b).toArray
  simp
theorem tm_neg (m : Nat) : Int.tmod (-(m : Int)) 10 = -((m % 10 : Nat) : Int) := by rw [Int.neg_tmod]; rfl
theorem td_neg (m : Nat) : Int.tdiv (-(m : Int)) 10 = -((m / 10 : Nat) : Int) := by rw [Int.neg_tdiv]; rfl
theorem itoa_dz {n : Int} (h : n ≠ 0) : itoa n = (if n < 0 then [45] else []) ++ dz n.natAbs := by
  unfold itoa dz
  rw [if_neg (by omega : ¬ n.natAbs = 0)]
  by_cases h1 : n < 0
  · rw [if_pos h1, if_pos h1]; rfl
  · rw [if_neg h1, if_neg h1, show n.toNat = n.natAbs by omega]; rfl
theorem We3caa {A B : Prop} (h9 : B) (w : B → A := by (intro h9; (repeat intro K hK); refine ⟨?_⟩; (repeat (first | (first | (with_reducible first | refine AX_block ?_ | refine AX_skip ?_ | refine AX_exit ?_ | refine AX_ret ?_ | refine AX_ift ?_ | refine AX_iff ?_ | refine AX_seq_k (fun K hK => ?_) | refine ContX.use (by assumption) ?_) | simp only [thenX, inBlockX, if_true, if_false, reduceCtorEq]) | (first | ((with_reducible refine XOP tyOK ?_); simp (disch := omega) only [go_sem , Int.neg_neg, hs1, hs2, hs3, hs4, hs5, ba_mk, ba_app, ba_size, List.cons_append, List.nil_append, List.length_cons, List.length_nil]; (with_reducible refine XRes_id ?_)) | (with_reducible refine XSK ?_)) | ((with_reducible refine XRes_nil ?_); refine hK _ ?_; clear hK K) | ((with_reducible refine AX_reg0 fun K hK => ?_); simp only [go_sem]) | (first | (refine XRes_bs (e := 5) [c] rfl rfl rfl rfl (by kernel_rfl) (by kernel_rfl) (by kernel_rfl) ?_; (simp only [putL, List.set_cons_succ, List.set_cons_zero]))))); refine Wk.o ?_; (repeat revert hK K); exact h9)) : A := w h9
set_option maxRecDepth 100000 in
set_option maxHeartbeats 4000000 in
theorem pf_rDigits (n : Int) (h0 : -9223372036854775808 ≤ n) (h1 : n ≤ 9223372036854775807) : PF Tryd.prog 34 [lt (.int .i64 n)] fun r H' => r = lt (.string (ba (itoa n))) ∧ H' = [] := by
  refine SF.forgetAll ?_
  have hs1 := trivial; have hs2 := trivial; have hs3 := trivial; have hs4 := trivial; have hs5 := trivial; have c := (0 : UInt8)
  by_cases hz : n = 0
  · subst hz
    (refine SF_of_bodyX (aload tt) (aload_ok tyOK) Tryd.func34 rfl (by kernel_rfl) ?_; simp only [Tryd.ntmps34, List.length_cons, List.length_nil, Nat.reduceAdd, Nat.reduceSub, List.replicate_succ, List.replicate_zero, List.cons_append, List.nil_append])
    (refine Wk.o ?_; (repeat revert hK K); refine We3caa ?_; (repeat intro K hK); refine ⟨?_⟩)
    (simp only [bodyX]; refine ⟨_, by simp only [aresults, aresult, XS.as, Tryd.results34, aload, go_sem, Option.bind_some]; rfl, ?_⟩)
    have e0 : itoa 0 = [48] := by unfold itoa; rw [if_neg (by omega), show (0 : Int).toNat = 0 from rfl, decDigits_one (by omega)]; rfl
    exact ⟨.iv _, by rw [e0], trivial⟩
  · (refine SF_of_bodyX (aload tt) (aload_ok tyOK) Tryd.func34 rfl (by kernel_rfl) ?_; simp only [Tryd.ntmps34, List.length_cons, List.length_nil, Nat.reduceAdd, Nat.reduceSub, List.replicate_succ, List.replicate_zero, List.cons_append, List.nil_append])
    (refine Wk.o ?_; (repeat revert hK K); refine We3caa ?_; (repeat intro K hK); refine ⟨?_⟩)
    (refine AWH (σ := Int × List UInt8) [9, 10, 13, 14, 5, 15, 16, 17, 18, 19, 20, 21, 22, 23, 24, 25, 11, 12] (fun (x, out) => [(4, .iv (.lit (.int .i64 x))), (3, .iv (.lit (.string (ba out))))]) (fun (x, out) => []) (fun (x, out) => []) (fun (x, out) => dz n.natAbs = dz x.natAbs ++ out ∧ (n < 0 → x ≤ 0) ∧ (0 < n → 0 ≤ x) ∧ -9223372036854775808 ≤ x ∧ x ≤ 9223372036854775807) (fun (x, out) => x.natAbs) (n, []) (by first | exact ⟨by rw [List.append_nil], fun h => by omega, fun h => by omega, h0, h1⟩) ?_; rintro ⟨x, out⟩ d fr hfr ⟨h2, h3, h4, h5, h6⟩; simp only [updS, deadS, List.set_cons_succ, List.set_cons_zero, lint] at hfr; subst hfr; (try dsimp only))
    have hol : out.length ≤ 20 := by
      have h7 := dz_len (m := n.natAbs) (by omega)
      rw [h2, List.length_append] at h7; omega
    by_cases hx : x = 0
    · have he : out = dz n.natAbs := by rw [h2, hx]; rfl
      by_cases hn : n < 0
      · have hs1 : (⟨#[45]⟩ : ByteArray) = ba [45] := rfl
        (refine Wk.o ?_; (repeat revert hK K); refine We3caa ?_; (repeat intro K hK); refine ⟨?_⟩)
        (simp only [bodyX]; refine ⟨_, by simp only [aresults, aresult, XS.as, Tryd.results34, aload, go_sem, Option.bind_some]; rfl, ?_⟩)
        exact ⟨.iv _, by rw [itoa_dz hz, if_pos hn, he]; rfl, trivial⟩
      · (refine Wk.o ?_; (repeat revert hK K); refine We3caa ?_; (repeat intro K hK); refine ⟨?_⟩)
        (simp only [bodyX]; refine ⟨_, by simp only [aresults, aresult, XS.as, Tryd.results34, aload, go_sem, Option.bind_some]; rfl, ?_⟩)
        exact ⟨.iv _, by rw [itoa_dz hz, if_neg hn, he]; rfl, trivial⟩
    · obtain ⟨m, hm⟩ : ∃ m : Nat, m = x.natAbs := ⟨_, rfl⟩
      have hst := dz_step (m := m) (by omega)
      rw [hm] at hst
      obtain ⟨r, hr⟩ : ∃ r : Nat, r = m % 10 := ⟨_, rfl⟩
      obtain ⟨y, hy⟩ : ∃ y : Nat, y = m / 10 := ⟨_, rfl⟩
      rw [← hm, ← hr, ← hy] at hst
      rw [← hm] at h2
      generalize hc : UInt8.ofNat (48 + r) = c at *
      have hct : c.toNat = 48 + r := by rw [← hc, UInt8.toNat_ofNat']; omega
      have hI2 : dz n.natAbs = dz y ++ (c :: out) := by rw [h2, hst, List.append_assoc]; rfl
      have hs5 : (48 : Int) + (r : Int) = (c.toNat : Int) := by omega
      have hrb : r < 10 := by omega
      have hs4 : IntKind.u8.wrap (c.toNat : Int) = (c.toNat : Int) := by rw [IntKind.wrap_u8]; omega
      by_cases hneg : x < 0
      · have hx2 : x = -(m : Int) := by omega
        have hs1 : Int.tmod x 10 = -(r : Int) := by rw [hx2, tm_neg, hr]
        have hs2 : Int.tdiv x 10 = -(y : Int) := by rw [hx2, td_neg, hy]
        have hI3 : dz n.natAbs = dz (-(y : Int)).natAbs ++ (c :: out) ∧ (n < 0 → -(y : Int) ≤ 0) ∧ (0 < n → 0 ≤ -(y : Int)) ∧ -9223372036854775808 ≤ -(y : Int) ∧ -(y : Int) ≤ 9223372036854775807 := ⟨by rw [show (-(y : Int)).natAbs = y by omega]; exact hI2, fun _ => by omega, fun h => by omega, by omega, by omega⟩
        by_cases hr0 : r = 0
        · have hs5 : (48 : Int) + -(r : Int) = (c.toNat : Int) := by omega
          (refine Wk.o ?_; (repeat revert hK K); refine We3caa ?_; (repeat intro K hK); refine ⟨?_⟩)
          exact whx_ren [] (-(y : Int), c :: out) hI3 (by (first | omega | (dsimp only; omega) | (simp only; omega))) rfl (by decide) (by decide) (by (simp (disch := omega) only [go_sem, lint , Int.neg_neg, hs1, hs2, hs3, hs4, hs5, ba_mk, ba_app, ba_size, List.cons_append, List.nil_append, List.length_cons, List.length_nil])) (by (simp (disch := omega) only [go_sem, lint , Int.neg_neg, hs1, hs2, hs3, hs4, hs5, ba_mk, ba_app, ba_size, List.cons_append, List.nil_append, List.length_cons, List.length_nil])) (by (simp (disch := omega) only [go_sem, lint , Int.neg_neg, hs1, hs2, hs3, hs4, hs5, ba_mk, ba_app, ba_size, List.cons_append, List.nil_append, List.length_cons, List.length_nil])) (fun d => by first | ((simp (disch := omega) only [go_sem, lint , Int.neg_neg, hs1, hs2, hs3, hs4, hs5, ba_mk, ba_app, ba_size, List.cons_append, List.nil_append, List.length_cons, List.length_nil]); done) | ((simp (disch := omega) only [go_sem, lint , Int.neg_neg, hs1, hs2, hs3, hs4, hs5, ba_mk, ba_app, ba_size, List.cons_append, List.nil_append, List.length_cons, List.length_nil]); rfl))
        · (refine Wk.o ?_; (repeat revert hK K); refine We3caa ?_; (repeat intro K hK); refine ⟨?_⟩)
          exact whx_ren [] (-(y : Int), c :: out) hI3 (by (first | omega | (dsimp only; omega) | (simp only; omega))) rfl (by decide) (by decide) (by (simp (disch := omega) only [go_sem, lint , Int.neg_neg, hs1, hs2, hs3, hs4, hs5, ba_mk, ba_app, ba_size, List.cons_append, List.nil_append, List.length_cons, List.length_nil])) (by (simp (disch := omega) only [go_sem, lint , Int.neg_neg, hs1, hs2, hs3, hs4, hs5, ba_mk, ba_app, ba_size, List.cons_append, List.nil_append, List.length_cons, List.length_nil])) (by (simp (disch := omega) only [go_sem, lint , Int.neg_neg, hs1, hs2, hs3, hs4, hs5, ba_mk, ba_app, ba_size, List.cons_append, List.nil_append, List.length_cons, List.length_nil])) (fun d => by first | ((simp (disch := omega) only [go_sem, lint , Int.neg_neg, hs1, hs2, hs3, hs4, hs5, ba_mk, ba_app, ba_size, List.cons_append, List.nil_append, List.length_cons, List.length_nil]); done) | ((simp (disch := omega) only [go_sem, lint , Int.neg_neg, hs1, hs2, hs3, hs4, hs5, ba_mk, ba_app, ba_size, List.cons_append, List.nil_append, List.length_cons, List.length_nil]); rfl))
      · have hx2 : x = (m : Int) := by omega
        have hs1 : Int.tmod x 10 = (r : Int) := by rw [hx2, hr]; rfl
        have hs2 : Int.tdiv x 10 = (y : Int) := by rw [hx2, hy]; rfl
        have hI3 : dz n.natAbs = dz (y : Int).natAbs ++ (c :: out) ∧ (n < 0 → (y : Int) ≤ 0) ∧ (0 < n → 0 ≤ (y : Int)) ∧ -9223372036854775808 ≤ (y : Int) ∧ (y : Int) ≤ 9223372036854775807 := ⟨by rw [show (y : Int).natAbs = y by omega]; exact hI2, fun _ => by omega, fun h => by omega, by omega, by omega⟩
        (refine Wk.o ?_; (repeat revert hK K); refine We3caa ?_; (repeat intro K hK); refine ⟨?_⟩)
        exact whx_ren [] ((y : Int), c :: out) hI3 (by (first | omega | (dsimp only; omega) | (simp only; omega))) rfl (by decide) (by decide) (by (simp (disch := omega) only [go_sem, lint , Int.neg_neg, hs1, hs2, hs3, hs4, hs5, ba_mk, ba_app, ba_size, List.cons_append, List.nil_append, List.length_cons, List.length_nil])) (by (simp (disch := omega) only [go_sem, lint , Int.neg_neg, hs1, hs2, hs3, hs4, hs5, ba_mk, ba_app, ba_size, List.cons_append, List.nil_append, List.length_cons, List.length_nil])) (by (simp (disch := omega) only [go_sem, lint , Int.neg_neg, hs1, hs2, hs3, hs4, hs5, ba_mk, ba_app, ba_size, List.cons_append, List.nil_append, List.length_cons, List.length_nil])) (fun d => by first | ((simp (disch := omega) only [go_sem, lint , Int.neg_neg, hs1, hs2, hs3, hs4, hs5, ba_mk, ba_app, ba_size, List.cons_append, List.nil_append, List.length_cons, List.length_nil]); done) | ((simp (disch := omega) only [go_sem, lint , Int.neg_neg, hs1, hs2, hs3, hs4, hs5, ba_mk, ba_app, ba_size, List.cons_append, List.nil_append, List.length_cons, List.length_nil]); rfl))
end Go.Proofs.YtghdacijcnmhlaaDoor
namespace Go.Proofs.YtghdacijcnmhlaaDoor
open Go.RowKit Go.Lib
set_option linter.unusedVariables false
set_option linter.unusedSimpArgs false
theorem wr_step (x d : Int) : IntKind.i64.wrap (IntKind.i64.wrap (10 * IntKind.i64.wrap x) + d) = IntKind.i64.wrap (10 * x + d) := by
  simp only [IntKind.wrap_i64]; omega
theorem drop_getD (l : List UInt8) (f k : Nat) : (l.drop f).getD k 0 = l.getD (f + k) 0 := by simp [List.getD]
theorem take_snocU {m : List UInt8} {k : Nat} (h : k < m.length) : m.take (k + 1) = m.take k ++ [m.getD k 0] := by
  rw [List.take_succ_eq_append_getElem h]; simp [List.getD, h]
def nk (f : Nat) (m : List UInt8) (k : Nat) : Int := if f = 1 then -(dv 0 (m.take k) : Int) else dv 0 (m.take k)
theorem nk_step {f : Nat} {m : List UInt8} {k : Nat} (h : k < m.length) (hd : m.all isDg = true) : nk f m (k + 1) = 10 * nk f m k + (if f = 1 then -(((m.getD k 0).toNat : Int) - 48) else ((m.getD k 0).toNat : Int) - 48) := by
  have hc : 48 ≤ (m.getD k 0).toNat := by
    rw [List.all_eq_true] at hd
    have := hd m[k] (List.getElem_mem h)
    rw [show m.getD k 0 = m[k] by simp [List.getD, h]]
    exact (of_decide_eq_true this).1
  unfold nk
  rw [take_snocU h, dv_snoc]
  split <;> omega
theorem W207aa {A B : Prop} (h9 : B) (w : B → A := by (intro h9; (repeat intro K hK); refine ⟨?_⟩; (repeat (first | (first | (with_reducible first | refine AX_block ?_ | refine AX_skip ?_ | refine AX_exit ?_ | refine AX_ret ?_ | refine AX_ift ?_ | refine AX_iff ?_ | refine AX_seq_k (fun K hK => ?_) | refine ContX.use (by assumption) ?_) | simp only [thenX, inBlockX, if_true, if_false, reduceCtorEq]) | (first | ((with_reducible refine XOP tyOK ?_); simp (disch := omega) only [go_sem , hs1, hs2, hs3, hs4, hs5, ba_toList, ba_size, byteAt_ba, Int.toNat_zero, Int.toNat_one, Int.toNat_natCast]; (with_reducible refine XRes_id ?_)) | (with_reducible refine XSK ?_)) | ((with_reducible refine XRes_nil ?_); refine hK _ ?_; clear hK K) | ((with_reducible refine AX_reg0 fun K hK => ?_); simp only [go_sem]) | (first | (first | refine XTL (by rfl) hC ?_)))); refine Wk.o ?_; (repeat revert hK K); exact h9)) : A := w h9
set_option maxRecDepth 100000 in
set_option maxHeartbeats 8000000 in
theorem pf_rNumber (l : List UInt8) (lo hi : Int) (hl : l.length ≤ 1000000) : PF Tryd.prog 45 [lt (.string (ba l)), lt (.int .i64 lo), lt (.int .i64 hi)] fun r H' => r = .tup [lt (.int .i64 (numR l lo hi).1), lt (.int .i64 (numR l lo hi).2)] ∧ H' = [] := by
  refine SF.forgetAll ?_
  have hs1 := trivial; have hs2 := trivial; have hs3 := trivial; have hs4 := trivial; have hs5 := trivial; have hC := trivial
  obtain ⟨e1, e2, e3⟩ := frm_mag l
  have hN := frm_num l
  have hgd : ∀ k, (magOf l).getD k 0 = l.getD (frm l + k) 0 := fun k => by rw [e1, drop_getD]
  have hml : (magOf l).length = l.length - frm l := by rw [e1, List.length_drop]
  have hfn : numOk l = false → numR l lo hi = (0, 5) := fun h => by unfold numR; rw [if_pos h]
  by_cases hl0 : l.length = 0
  · have hnil : l = [] := List.length_eq_zero_iff.1 hl0
    rw [hfn (by rw [hnil]; rfl)]
    (refine SF_of_bodyX (aload tt) (aload_ok tyOK) Tryd.func45 rfl (by kernel_rfl) ?_; simp only [Tryd.ntmps45, List.length_cons, List.length_nil, Nat.reduceAdd, Nat.reduceSub, List.replicate_succ, List.replicate_zero, List.cons_append, List.nil_append])
    (refine Wk.o ?_; (repeat revert hK K); refine W207aa ?_; (repeat intro K hK); refine ⟨?_⟩)
    (simp only [bodyX]; refine ⟨_, by simp only [aresults, aresult, XS.as, Tryd.results45, aload, go_sem, Option.bind_some]; rfl, ?_⟩)
    exact ⟨ids_idB rfl, rfl, trivial⟩
  · by_cases h45 : (l.getD 0 0).toNat = 45
    · have hf1 : frm l = 1 := by
        cases l with
        | nil => exact absurd rfl hl0
        | cons c r =>
          have hc : c = 45 := UInt8.toNat_inj.1 (by rw [show c.toNat = 45 from h45]; rfl)
          rw [hc]; rfl
      rw [hf1] at hgd hml e1 hN
      by_cases hl1 : l.length = 1
      · have hm0 : magOf l = [] := List.length_eq_zero_iff.1 (by omega)
        have hno : numOk l = false := by unfold numOk; rw [hm0]; rfl
        (refine SF_of_bodyX (aload tt) (aload_ok tyOK) Tryd.func45 rfl (by kernel_rfl) ?_; simp only [Tryd.ntmps45, List.length_cons, List.length_nil, Nat.reduceAdd, Nat.reduceSub, List.replicate_succ, List.replicate_zero, List.cons_append, List.nil_append])
        (refine Wk.o ?_; (repeat revert hK K); refine W207aa ?_; (repeat intro K hK); refine ⟨?_⟩)
        (simp only [bodyX]; refine ⟨_, by simp only [aresults, aresult, XS.as, Tryd.results45, aload, go_sem, Option.bind_some]; rfl, ?_⟩)
        exact ⟨ids_idB rfl, by rw [hfn hno], trivial⟩
      · have hm0 : magOf l ≠ [] := fun e => by rw [e] at hml; simp at hml; omega
        have hg0 : (magOf l).getD 0 0 = l.getD 1 0 := hgd 0
        by_cases h48 : (l.getD 1 0).toNat = 48
        · have h48' : (magOf l).getD 0 0 = 48 := by rw [hg0]; exact UInt8.toNat_inj.1 (by rw [h48]; rfl)
          have hno := form_no h48' (by omega)
          (refine SF_of_bodyX (aload tt) (aload_ok tyOK) Tryd.func45 rfl (by kernel_rfl) ?_; simp only [Tryd.ntmps45, List.length_cons, List.length_nil, Nat.reduceAdd, Nat.reduceSub, List.replicate_succ, List.replicate_zero, List.cons_append, List.nil_append])
          (refine Wk.o ?_; (repeat revert hK K); refine W207aa ?_; (repeat intro K hK); refine ⟨?_⟩)
          (simp only [bodyX]; refine ⟨_, by simp only [aresults, aresult, XS.as, Tryd.results45, aload, go_sem, Option.bind_some]; rfl, ?_⟩)
          exact ⟨ids_idB rfl, by rw [hfn hno], trivial⟩
        · obtain ⟨hok, hnz⟩ := form_yes hm0 (fun h => h48 (by rw [hg0] at h; rw [h.1]; rfl))
          (refine SF_of_bodyX (aload tt) (aload_ok tyOK) Tryd.func45 rfl (by kernel_rfl) ?_; simp only [Tryd.ntmps45, List.length_cons, List.length_nil, Nat.reduceAdd, Nat.reduceSub, List.replicate_succ, List.replicate_zero, List.cons_append, List.nil_append])
          (refine Wk.o ?_; (repeat revert hK K); refine W207aa ?_; (repeat intro K hK); refine ⟨?_⟩)
          (refine AWH (σ := Nat) [37, 38, 39, 40, 43, 44, 45, 46, 47, 48, 49, 50, 51, 52, 6, 7, 41, 42] (fun k => [(9, lint k)]) (fun k => []) (fun k => []) (fun k => 1 ≤ k ∧ k ≤ l.length ∧ ((magOf l).take (k - 1)).all isDg = true) (fun k => l.length - k) 1 (by first | exact ⟨Nat.le_refl _, by omega, rfl⟩) ?_; rintro k d fr hfr ⟨hk0, hk, hj⟩; simp only [updS, deadS, List.set_cons_succ, List.set_cons_zero, lint] at hfr; subst hfr; (try dsimp only))
          by_cases hlt : k < l.length
          · have hkk : (magOf l).getD (k - 1) 0 = l.getD k 0 := by rw [hgd, show 1 + (k - 1) = k by omega]
            have hkl : k - 1 < (magOf l).length := by omega
            by_cases h6 : (l.getD k 0).toNat < 48
            · (refine Wk.o ?_; (repeat revert hK K); refine W207aa ?_; (repeat intro K hK); refine ⟨?_⟩)
              (simp only [bodyX]; refine ⟨_, by simp only [aresults, aresult, XS.as, Tryd.results45, aload, go_sem, Option.bind_some]; rfl, ?_⟩)
              exact ⟨ids_idB rfl, by rw [hfn (by rw [hok]; exact dg_no hkl (by rw [hkk]; omega))], trivial⟩
            · by_cases h7 : 57 < (l.getD k 0).toNat
              · (refine Wk.o ?_; (repeat revert hK K); refine W207aa ?_; (repeat intro K hK); refine ⟨?_⟩)
                (simp only [bodyX]; refine ⟨_, by simp only [aresults, aresult, XS.as, Tryd.results45, aload, go_sem, Option.bind_some]; rfl, ?_⟩)
                exact ⟨ids_idB rfl, by rw [hfn (by rw [hok]; exact dg_no hkl (by rw [hkk]; omega))], trivial⟩
              · have hI2 : 1 ≤ k + 1 ∧ k + 1 ≤ l.length ∧ ((magOf l).take (k + 1 - 1)).all isDg = true := ⟨by omega, by omega, by rw [show k + 1 - 1 = k - 1 + 1 by omega]; exact dg_take hkl hj (by rw [hkk]; omega) (by rw [hkk]; omega)⟩
                (refine Wk.o ?_; (repeat revert hK K); refine W207aa ?_; (repeat intro K hK); refine ⟨?_⟩)
                exact WEND (k + 1) hI2 (by (first | omega | (dsimp only; omega) | (simp only; omega)))
          · have hkm : k - 1 = (magOf l).length := by omega
            have hall : (magOf l).all isDg = true := by rw [hkm, List.take_length] at hj; exact hj
            have hok2 : numOk l = true := by rw [hok, hall]
            have hR : numR l lo hi = if -9223372036854775808 ≤ numV l ∧ numV l ≤ 9223372036854775807 ∧ lo ≤ numV l ∧ numV l ≤ hi then (numV l, 0) else (0, 7) := by unfold numR; rw [if_neg (by rw [hok2]; decide)]
            by_cases hb : 19 < l.length - 1
            · have hbig := dv_big hall hnz (by omega)
              have hR2 : numR l lo hi = (0, 7) := by rw [hR, if_neg]; intro h; rw [hN] at h; split at h <;> omega
              (refine Wk.o ?_; (repeat revert hK K); refine W207aa ?_; (repeat intro K hK); refine ⟨?_⟩)
              (simp only [bodyX]; refine ⟨_, by simp only [aresults, aresult, XS.as, Tryd.results45, aload, go_sem, Option.bind_some]; rfl, ?_⟩)
              exact ⟨ids_idB rfl, by rw [hR2], trivial⟩
            · (refine Wk.o ?_; (repeat revert hK K); refine W207aa ?_; (repeat intro K hK); refine ⟨?_⟩)
              (refine AWH (σ := Nat) [59, 60, 61, 62, 65, 66, 67, 68, 69, 12, 70, 71, 72, 73, 74, 75, 76, 77, 63, 64] (fun k => [(11, lint k), (10, .iv (.lit (.int .i64 (IntKind.i64.wrap (nk 1 (magOf l) (k - 1))))))]) (fun k => []) (fun k => []) (fun k => 1 ≤ k ∧ k ≤ l.length) (fun k => l.length - k) 1 (by first | exact ⟨Nat.le_refl _, by omega⟩) ?_; rintro k d fr hfr ⟨hk0, hk⟩; simp only [updS, deadS, List.set_cons_succ, List.set_cons_zero, lint] at hfr; subst hfr; (try dsimp only))
              by_cases hlt : k < l.length
              · have hkk : (magOf l).getD (k - 1) 0 = l.getD k 0 := by rw [hgd, show 1 + (k - 1) = k by omega]
                have hst := nk_step (f := 1) (show k - 1 < (magOf l).length by omega) hall
                rw [show k - 1 + 1 = k + 1 - 1 by omega] at hst
                rw [hkk, if_pos rfl] at hst
                have hcb : (l.getD k 0).toNat < 256 := UInt8.toNat_lt _
                have hs1 := wr_step (nk 1 (magOf l) (k - 1)) (-(((l.getD k 0).toNat : Int) - 48))
                rw [← hst] at hs1
                have hs2 : IntKind.i64.wrap ((l.getD k 0).toNat : Int) = ((l.getD k 0).toNat : Int) := by rw [IntKind.wrap_i64]; omega
                have hs3 : IntKind.i64.wrap (((l.getD k 0).toNat : Int) - 48) = ((l.getD k 0).toNat : Int) - 48 := by rw [IntKind.wrap_i64]; omega
                have hs4 : IntKind.i64.wrap (-(((l.getD k 0).toNat : Int) - 48)) = -(((l.getD k 0).toNat : Int) - 48) := by rw [IntKind.wrap_i64]; omega
                have hI2 : 1 ≤ k + 1 ∧ k + 1 ≤ l.length := ⟨by omega, by omega⟩
                (refine Wk.o ?_; (repeat revert hK K); refine W207aa ?_; (repeat intro K hK); refine ⟨?_⟩)
                exact whx_end (k + 1) hI2 (by (first | omega | (dsimp only; omega) | (simp only; omega))) rfl rfl (fun d => by first | ((simp (disch := omega) only [go_sem, lint , hs1, hs2, hs3, hs4, hs5, ba_toList, ba_size, byteAt_ba, Int.toNat_zero, Int.toNat_one, Int.toNat_natCast]); done) | ((simp (disch := omega) only [go_sem, lint , hs1, hs2, hs3, hs4, hs5, ba_toList, ba_size, byteAt_ba, Int.toNat_zero, Int.toNat_one, Int.toNat_natCast]); rfl))
              · have hkm : k - 1 = (magOf l).length := by omega
                have hnk : nk 1 (magOf l) (k - 1) = numV l := by
                  rw [hN, if_pos rfl]
                  unfold nk
                  rw [if_pos rfl, hkm, List.take_length]
                obtain ⟨x, hxe⟩ : ∃ x, x = IntKind.i64.wrap (nk 1 (magOf l) (k - 1)) := ⟨_, rfl⟩
                have hxb : -9223372036854775808 ≤ x ∧ x ≤ 9223372036854775807 := by rw [hxe, IntKind.wrap_i64]; omega
                have hxi : (-9223372036854775808 ≤ numV l ∧ numV l ≤ 9223372036854775807) ↔ x = numV l := by
                  rw [hxe, hnk, IntKind.wrap_i64]; omega
                rw [← hxe]
                have hC := pf_rDigits x hxb.1 hxb.2
                by_cases hin : x = numV l
                · have hr := hxi.2 hin
                  have hs1 : (itoa x == l) = true := by rw [hin, num_itoa hok2]; simp
                  by_cases h8 : x < lo
                  · have hR2 : numR l lo hi = (0, 7) := by rw [hR, if_neg]; intro h; omega
                    (refine Wk.o ?_; (repeat revert hK K); refine W207aa ?_; (repeat intro K hK); refine ⟨?_⟩)
                    (simp only [bodyX]; refine ⟨_, by simp only [aresults, aresult, XS.as, Tryd.results45, aload, go_sem, Option.bind_some]; rfl, ?_⟩)
                    exact ⟨ids_idB rfl, by rw [hR2], trivial⟩
                  · by_cases h9 : hi < x
                    · have hR2 : numR l lo hi = (0, 7) := by rw [hR, if_neg]; intro h; omega
                      (refine Wk.o ?_; (repeat revert hK K); refine W207aa ?_; (repeat intro K hK); refine ⟨?_⟩)
                      (simp only [bodyX]; refine ⟨_, by simp only [aresults, aresult, XS.as, Tryd.results45, aload, go_sem, Option.bind_some]; rfl, ?_⟩)
                      exact ⟨ids_idB rfl, by rw [hR2], trivial⟩
                    · have hR2 : numR l lo hi = (x, 0) := by rw [hR, if_pos (by omega), hin]
                      (refine Wk.o ?_; (repeat revert hK K); refine W207aa ?_; (repeat intro K hK); refine ⟨?_⟩)
                      (simp only [bodyX]; refine ⟨_, by simp only [aresults, aresult, XS.as, Tryd.results45, aload, go_sem, Option.bind_some]; rfl, ?_⟩)
                      exact ⟨ids_idB rfl, by rw [hR2], trivial⟩
                · have hs1 : (itoa x == l) = false := by simpa using itoa_ne hin
                  have hR2 : numR l lo hi = (0, 7) := by rw [hR, if_neg]; intro h; exact hin (hxi.1 ⟨h.1, h.2.1⟩)
                  (refine Wk.o ?_; (repeat revert hK K); refine W207aa ?_; (repeat intro K hK); refine ⟨?_⟩)
                  (simp only [bodyX]; refine ⟨_, by simp only [aresults, aresult, XS.as, Tryd.results45, aload, go_sem, Option.bind_some]; rfl, ?_⟩)
                  exact ⟨ids_idB rfl, by rw [hR2], trivial⟩
    · have hf0 : frm l = 0 := by
        cases l with
        | nil => exact absurd rfl hl0
        | cons c r => exact frm_plain fun e => h45 (by rw [e]; rfl)
      rw [hf0] at hgd hml e1 hN
      have hm0 : magOf l ≠ [] := fun e => by rw [e] at hml; simp at hml; omega
      have hg0 := hgd 0
      by_cases h48 : (l.getD 0 0).toNat = 48
      · have h48' : (magOf l).getD 0 0 = 48 := by rw [hg0]; exact UInt8.toNat_inj.1 (by rw [h48]; rfl)
        by_cases h1 : 1 < l.length
        · rw [hfn (form_no h48' h1)]
          (refine SF_of_bodyX (aload tt) (aload_ok tyOK) Tryd.func45 rfl (by kernel_rfl) ?_; simp only [Tryd.ntmps45, List.length_cons, List.length_nil, Nat.reduceAdd, Nat.reduceSub, List.replicate_succ, List.replicate_zero, List.cons_append, List.nil_append])
          (refine Wk.o ?_; (repeat revert hK K); refine W207aa ?_; (repeat intro K hK); refine ⟨?_⟩)
          (simp only [bodyX]; refine ⟨_, by simp only [aresults, aresult, XS.as, Tryd.results45, aload, go_sem, Option.bind_some]; rfl, ?_⟩)
          exact ⟨ids_idB rfl, rfl, trivial⟩
        · obtain ⟨hok, hnz⟩ := form_yes hm0 (fun h => h1 h.2)
          (refine SF_of_bodyX (aload tt) (aload_ok tyOK) Tryd.func45 rfl (by kernel_rfl) ?_; simp only [Tryd.ntmps45, List.length_cons, List.length_nil, Nat.reduceAdd, Nat.reduceSub, List.replicate_succ, List.replicate_zero, List.cons_append, List.nil_append])
          (refine Wk.o ?_; (repeat revert hK K); refine W207aa ?_; (repeat intro K hK); refine ⟨?_⟩)
          (refine AWH (σ := Nat) [37, 38, 39, 40, 43, 44, 45, 46, 47, 48, 49, 50, 51, 52, 6, 7, 41, 42] (fun k => [(9, lint k)]) (fun k => []) (fun k => []) (fun k => 0 ≤ k ∧ k ≤ l.length ∧ ((magOf l).take (k - 0)).all isDg = true) (fun k => l.length - k) 0 (by first | exact ⟨Nat.le_refl _, by omega, rfl⟩) ?_; rintro k d fr hfr ⟨hk0, hk, hj⟩; simp only [updS, deadS, List.set_cons_succ, List.set_cons_zero, lint] at hfr; subst hfr; (try dsimp only))
          by_cases hlt : k < l.length
          · have hkk : (magOf l).getD (k - 0) 0 = l.getD k 0 := by rw [hgd, show 0 + (k - 0) = k by omega]
            have hkl : k - 0 < (magOf l).length := by omega
            by_cases h6 : (l.getD k 0).toNat < 48
            · (refine Wk.o ?_; (repeat revert hK K); refine W207aa ?_; (repeat intro K hK); refine ⟨?_⟩)
              (simp only [bodyX]; refine ⟨_, by simp only [aresults, aresult, XS.as, Tryd.results45, aload, go_sem, Option.bind_some]; rfl, ?_⟩)
              exact ⟨ids_idB rfl, by rw [hfn (by rw [hok]; exact dg_no hkl (by rw [hkk]; omega))], trivial⟩
            · by_cases h7 : 57 < (l.getD k 0).toNat
              · (refine Wk.o ?_; (repeat revert hK K); refine W207aa ?_; (repeat intro K hK); refine ⟨?_⟩)
                (simp only [bodyX]; refine ⟨_, by simp only [aresults, aresult, XS.as, Tryd.results45, aload, go_sem, Option.bind_some]; rfl, ?_⟩)
                exact ⟨ids_idB rfl, by rw [hfn (by rw [hok]; exact dg_no hkl (by rw [hkk]; omega))], trivial⟩
              · have hI2 : 0 ≤ k + 1 ∧ k + 1 ≤ l.length ∧ ((magOf l).take (k + 1 - 0)).all isDg = true := ⟨by omega, by omega, by rw [show k + 1 - 0 = k - 0 + 1 by omega]; exact dg_take hkl hj (by rw [hkk]; omega) (by rw [hkk]; omega)⟩
                (refine Wk.o ?_; (repeat revert hK K); refine W207aa ?_; (repeat intro K hK); refine ⟨?_⟩)
                exact WEND (k + 1) hI2 (by (first | omega | (dsimp only; omega) | (simp only; omega)))
          · obtain rfl : k = l.length := by omega
            have hall : (magOf l).all isDg = true := by rw [List.take_of_length_le (by omega)] at hj; exact hj
            have hok2 : numOk l = true := by rw [hok, hall]
            have hR : numR l lo hi = if -9223372036854775808 ≤ numV l ∧ numV l ≤ 9223372036854775807 ∧ lo ≤ numV l ∧ numV l ≤ hi then (numV l, 0) else (0, 7) := by unfold numR; rw [if_neg (by rw [hok2]; decide)]
            by_cases hb : 19 < l.length - 0
            · first
              | (exfalso; omega)
              | (have hbig := dv_big hall hnz (by omega)
                 have hR2 : numR l lo hi = (0, 7) := by rw [hR, if_neg]; intro h; rw [hN] at h; split at h <;> omega
                 (refine Wk.o ?_; (repeat revert hK K); refine W207aa ?_; (repeat intro K hK); refine ⟨?_⟩)
                 (simp only [bodyX]; refine ⟨_, by simp only [aresults, aresult, XS.as, Tryd.results45, aload, go_sem, Option.bind_some]; rfl, ?_⟩)
                 exact ⟨ids_idB rfl, by rw [hR2], trivial⟩)
            · (refine Wk.o ?_; (repeat revert hK K); refine W207aa ?_; (repeat intro K hK); refine ⟨?_⟩)
              (refine AWH (σ := Nat) [59, 60, 61, 62, 65, 66, 67, 68, 69, 12, 70, 71, 72, 73, 74, 75, 76, 77, 63, 64] (fun k => [(11, lint k), (10, .iv (.lit (.int .i64 (IntKind.i64.wrap (nk 0 (magOf l) k)))))]) (fun k => []) (fun k => []) (fun k => k ≤ l.length) (fun k => l.length - k) 0 (by first | exact Nat.zero_le _) ?_; rintro k d fr hfr hk; simp only [updS, deadS, List.set_cons_succ, List.set_cons_zero, lint] at hfr; subst hfr; (try dsimp only))
              by_cases hlt : k < l.length
              · have hkk : (magOf l).getD k 0 = l.getD k 0 := by rw [hgd, Nat.zero_add]
                have hst := nk_step (f := 0) (show k < (magOf l).length by omega) hall
                rw [hkk, if_neg (by omega)] at hst
                have hcb : (l.getD k 0).toNat < 256 := UInt8.toNat_lt _
                have hs1 := wr_step (nk 0 (magOf l) k) (((l.getD k 0).toNat : Int) - 48)
                rw [← hst] at hs1
                have hs2 : IntKind.i64.wrap ((l.getD k 0).toNat : Int) = ((l.getD k 0).toNat : Int) := by rw [IntKind.wrap_i64]; omega
                have hs3 : IntKind.i64.wrap (((l.getD k 0).toNat : Int) - 48) = ((l.getD k 0).toNat : Int) - 48 := by rw [IntKind.wrap_i64]; omega
                have hI2 : k + 1 ≤ l.length := by omega
                (refine Wk.o ?_; (repeat revert hK K); refine W207aa ?_; (repeat intro K hK); refine ⟨?_⟩)
                exact whx_end (k + 1) hI2 (by (first | omega | (dsimp only; omega) | (simp only; omega))) rfl rfl (fun d => by first | ((simp (disch := omega) only [go_sem, lint , hs1, hs2, hs3, hs4, hs5, ba_toList, ba_size, byteAt_ba, Int.toNat_zero, Int.toNat_one, Int.toNat_natCast]); done) | ((simp (disch := omega) only [go_sem, lint , hs1, hs2, hs3, hs4, hs5, ba_toList, ba_size, byteAt_ba, Int.toNat_zero, Int.toNat_one, Int.toNat_natCast]); rfl))
              · obtain rfl : k = l.length := by omega
                have hnk : nk 0 (magOf l) l.length = numV l := by
                  rw [hN, if_neg (by omega)]
                  unfold nk
                  rw [if_neg (by omega), List.take_of_length_le (by omega)]
                obtain ⟨x, hxe⟩ : ∃ x, x = IntKind.i64.wrap (nk 0 (magOf l) l.length) := ⟨_, rfl⟩
                have hxb : -9223372036854775808 ≤ x ∧ x ≤ 9223372036854775807 := by rw [hxe, IntKind.wrap_i64]; omega
                have hxi : (-9223372036854775808 ≤ numV l ∧ numV l ≤ 9223372036854775807) ↔ x = numV l := by
                  rw [hxe, hnk, IntKind.wrap_i64]; omega
                rw [← hxe]
                have hC := pf_rDigits x hxb.1 hxb.2
                by_cases hin : x = numV l
                · have hr := hxi.2 hin
                  have hs1 : (itoa x == l) = true := by rw [hin, num_itoa hok2]; simp
                  by_cases h8 : x < lo
                  · have hR2 : numR l lo hi = (0, 7) := by rw [hR, if_neg]; intro h; omega
                    (refine Wk.o ?_; (repeat revert hK K); refine W207aa ?_; (repeat intro K hK); refine ⟨?_⟩)
                    (simp only [bodyX]; refine ⟨_, by simp only [aresults, aresult, XS.as, Tryd.results45, aload, go_sem, Option.bind_some]; rfl, ?_⟩)
                    exact ⟨ids_idB rfl, by rw [hR2], trivial⟩
                  · by_cases h9 : hi < x
                    · have hR2 : numR l lo hi = (0, 7) := by rw [hR, if_neg]; intro h; omega
                      (refine Wk.o ?_; (repeat revert hK K); refine W207aa ?_; (repeat intro K hK); refine ⟨?_⟩)
                      (simp only [bodyX]; refine ⟨_, by simp only [aresults, aresult, XS.as, Tryd.results45, aload, go_sem, Option.bind_some]; rfl, ?_⟩)
                      exact ⟨ids_idB rfl, by rw [hR2], trivial⟩
                    · have hR2 : numR l lo hi = (x, 0) := by rw [hR, if_pos (by omega), hin]
                      (refine Wk.o ?_; (repeat revert hK K); refine W207aa ?_; (repeat intro K hK); refine ⟨?_⟩)
                      (simp only [bodyX]; refine ⟨_, by simp only [aresults, aresult, XS.as, Tryd.results45, aload, go_sem, Option.bind_some]; rfl, ?_⟩)
                      exact ⟨ids_idB rfl, by rw [hR2], trivial⟩
                · have hs1 : (itoa x == l) = false := by simpa using itoa_ne hin
                  have hR2 : numR l lo hi = (0, 7) := by rw [hR, if_neg]; intro h; exact hin (hxi.1 ⟨h.1, h.2.1⟩)
                  (refine Wk.o ?_; (repeat revert hK K); refine W207aa ?_; (repeat intro K hK); refine ⟨?_⟩)
                  (simp only [bodyX]; refine ⟨_, by simp only [aresults, aresult, XS.as, Tryd.results45, aload, go_sem, Option.bind_some]; rfl, ?_⟩)
                  exact ⟨ids_idB rfl, by rw [hR2], trivial⟩
      · obtain ⟨hok, hnz⟩ := form_yes hm0 (fun h => h48 (by rw [hg0] at h; rw [h.1]; rfl))
        (refine SF_of_bodyX (aload tt) (aload_ok tyOK) Tryd.func45 rfl (by kernel_rfl) ?_; simp only [Tryd.ntmps45, List.length_cons, List.length_nil, Nat.reduceAdd, Nat.reduceSub, List.replicate_succ, List.replicate_zero, List.cons_append, List.nil_append])
        (refine Wk.o ?_; (repeat revert hK K); refine W207aa ?_; (repeat intro K hK); refine ⟨?_⟩)
        (refine AWH (σ := Nat) [37, 38, 39, 40, 43, 44, 45, 46, 47, 48, 49, 50, 51, 52, 6, 7, 41, 42] (fun k => [(9, lint k)]) (fun k => []) (fun k => []) (fun k => 0 ≤ k ∧ k ≤ l.length ∧ ((magOf l).take (k - 0)).all isDg = true) (fun k => l.length - k) 0 (by first | exact ⟨Nat.le_refl _, by omega, rfl⟩) ?_; rintro k d fr hfr ⟨hk0, hk, hj⟩; simp only [updS, deadS, List.set_cons_succ, List.set_cons_zero, lint] at hfr; subst hfr; (try dsimp only))
        by_cases hlt : k < l.length
        · have hkk : (magOf l).getD (k - 0) 0 = l.getD k 0 := by rw [hgd, show 0 + (k - 0) = k by omega]
          have hkl : k - 0 < (magOf l).length := by omega
          by_cases h6 : (l.getD k 0).toNat < 48
          · (refine Wk.o ?_; (repeat revert hK K); refine W207aa ?_; (repeat intro K hK); refine ⟨?_⟩)
            (simp only [bodyX]; refine ⟨_, by simp only [aresults, aresult, XS.as, Tryd.results45, aload, go_sem, Option.bind_some]; rfl, ?_⟩)
            exact ⟨ids_idB rfl, by rw [hfn (by rw [hok]; exact dg_no hkl (by rw [hkk]; omega))], trivial⟩
          · by_cases h7 : 57 < (l.getD k 0).toNat
            · (refine Wk.o ?_; (repeat revert hK K); refine W207aa ?_; (repeat intro K hK); refine ⟨?_⟩)
              (simp only [bodyX]; refine ⟨_, by simp only [aresults, aresult, XS.as, Tryd.results45, aload, go_sem, Option.bind_some]; rfl, ?_⟩)
              exact ⟨ids_idB rfl, by rw [hfn (by rw [hok]; exact dg_no hkl (by rw [hkk]; omega))], trivial⟩
            · have hI2 : 0 ≤ k + 1 ∧ k + 1 ≤ l.length ∧ ((magOf l).take (k + 1 - 0)).all isDg = true := ⟨by omega, by omega, by rw [show k + 1 - 0 = k - 0 + 1 by omega]; exact dg_take hkl hj (by rw [hkk]; omega) (by rw [hkk]; omega)⟩
              (refine Wk.o ?_; (repeat revert hK K); refine W207aa ?_; (repeat intro K hK); refine ⟨?_⟩)
              exact WEND (k + 1) hI2 (by (first | omega | (dsimp only; omega) | (simp only; omega)))
        · obtain rfl : k = l.length := by omega
          have hall : (magOf l).all isDg = true := by rw [List.take_of_length_le (by omega)] at hj; exact hj
          have hok2 : numOk l = true := by rw [hok, hall]
          have hR : numR l lo hi = if -9223372036854775808 ≤ numV l ∧ numV l ≤ 9223372036854775807 ∧ lo ≤ numV l ∧ numV l ≤ hi then (numV l, 0) else (0, 7) := by unfold numR; rw [if_neg (by rw [hok2]; decide)]
          by_cases hb : 19 < l.length - 0
          · first
            | (exfalso; omega)
            | (have hbig := dv_big hall hnz (by omega)
               have hR2 : numR l lo hi = (0, 7) := by rw [hR, if_neg]; intro h; rw [hN] at h; split at h <;> omega
               (refine Wk.o ?_; (repeat revert hK K); refine W207aa ?_; (repeat intro K hK); refine ⟨?_⟩)
               (simp only [bodyX]; refine ⟨_, by simp only [aresults, aresult, XS.as, Tryd.results45, aload, go_sem, Option.bind_some]; rfl, ?_⟩)
               exact ⟨ids_idB rfl, by rw [hR2], trivial⟩)
          · (refine Wk.o ?_; (repeat revert hK K); refine W207aa ?_; (repeat intro K hK); refine ⟨?_⟩)
            (refine AWH (σ := Nat) [59, 60, 61, 62, 65, 66, 67, 68, 69, 12, 70, 71, 72, 73, 74, 75, 76, 77, 63, 64] (fun k => [(11, lint k), (10, .iv (.lit (.int .i64 (IntKind.i64.wrap (nk 0 (magOf l) k)))))]) (fun k => []) (fun k => []) (fun k => k ≤ l.length) (fun k => l.length - k) 0 (by first | exact Nat.zero_le _) ?_; rintro k d fr hfr hk; simp only [updS, deadS, List.set_cons_succ, List.set_cons_zero, lint] at hfr; subst hfr; (try dsimp only))
            by_cases hlt : k < l.length
            · have hkk : (magOf l).getD k 0 = l.getD k 0 := by rw [hgd, Nat.zero_add]
              have hst := nk_step (f := 0) (show k < (magOf l).length by omega) hall
              rw [hkk, if_neg (by omega)] at hst
              have hcb : (l.getD k 0).toNat < 256 := UInt8.toNat_lt _
              have hs1 := wr_step (nk 0 (magOf l) k) (((l.getD k 0).toNat : Int) - 48)
              rw [← hst] at hs1
              have hs2 : IntKind.i64.wrap ((l.getD k 0).toNat : Int) = ((l.getD k 0).toNat : Int) := by rw [IntKind.wrap_i64]; omega
              have hs3 : IntKind.i64.wrap (((l.getD k 0).toNat : Int) - 48) = ((l.getD k 0).toNat : Int) - 48 := by rw [IntKind.wrap_i64]; omega
              have hI2 : k + 1 ≤ l.length := by omega
              (refine Wk.o ?_; (repeat revert hK K); refine W207aa ?_; (repeat intro K hK); refine ⟨?_⟩)
              exact whx_end (k + 1) hI2 (by (first | omega | (dsimp only; omega) | (simp only; omega))) rfl rfl (fun d => by first | ((simp (disch := omega) only [go_sem, lint , hs1, hs2, hs3, hs4, hs5, ba_toList, ba_size, byteAt_ba, Int.toNat_zero, Int.toNat_one, Int.toNat_natCast]); done) | ((simp (disch := omega) only [go_sem, lint , hs1, hs2, hs3, hs4, hs5, ba_toList, ba_size, byteAt_ba, Int.toNat_zero, Int.toNat_one, Int.toNat_natCast]); rfl))
            · obtain rfl : k = l.length := by omega
              have hnk : nk 0 (magOf l) l.length = numV l := by
                rw [hN, if_neg (by omega)]
                unfold nk
                rw [if_neg (by omega), List.take_of_length_le (by omega)]
              obtain ⟨x, hxe⟩ : ∃ x, x = IntKind.i64.wrap (nk 0 (magOf l) l.length) := ⟨_, rfl⟩
              have hxb : -9223372036854775808 ≤ x ∧ x ≤ 9223372036854775807 := by rw [hxe, IntKind.wrap_i64]; omega
              have hxi : (-9223372036854775808 ≤ numV l ∧ numV l ≤ 9223372036854775807) ↔ x = numV l := by
                rw [hxe, hnk, IntKind.wrap_i64]; omega
              rw [← hxe]
              have hC := pf_rDigits x hxb.1 hxb.2
              by_cases hin : x = numV l
              · have hr := hxi.2 hin
                have hs1 : (itoa x == l) = true := by rw [hin, num_itoa hok2]; simp
                by_cases h8 : x < lo
                · have hR2 : numR l lo hi = (0, 7) := by rw [hR, if_neg]; intro h; omega
                  (refine Wk.o ?_; (repeat revert hK K); refine W207aa ?_; (repeat intro K hK); refine ⟨?_⟩)
                  (simp only [bodyX]; refine ⟨_, by simp only [aresults, aresult, XS.as, Tryd.results45, aload, go_sem, Option.bind_some]; rfl, ?_⟩)
                  exact ⟨ids_idB rfl, by rw [hR2], trivial⟩
                · by_cases h9 : hi < x
                  · have hR2 : numR l lo hi = (0, 7) := by rw [hR, if_neg]; intro h; omega
                    (refine Wk.o ?_; (repeat revert hK K); refine W207aa ?_; (repeat intro K hK); refine ⟨?_⟩)
                    (simp only [bodyX]; refine ⟨_, by simp only [aresults, aresult, XS.as, Tryd.results45, aload, go_sem, Option.bind_some]; rfl, ?_⟩)
                    exact ⟨ids_idB rfl, by rw [hR2], trivial⟩
                  · have hR2 : numR l lo hi = (x, 0) := by rw [hR, if_pos (by omega), hin]
                    (refine Wk.o ?_; (repeat revert hK K); refine W207aa ?_; (repeat intro K hK); refine ⟨?_⟩)
                    (simp only [bodyX]; refine ⟨_, by simp only [aresults, aresult, XS.as, Tryd.results45, aload, go_sem, Option.bind_some]; rfl, ?_⟩)
                    exact ⟨ids_idB rfl, by rw [hR2], trivial⟩
              · have hs1 : (itoa x == l) = false := by simpa using itoa_ne hin
                have hR2 : numR l lo hi = (0, 7) := by rw [hR, if_neg]; intro h; exact hin (hxi.1 ⟨h.1, h.2.1⟩)
                (refine Wk.o ?_; (repeat revert hK K); refine W207aa ?_; (repeat intro K hK); refine ⟨?_⟩)
                (simp only [bodyX]; refine ⟨_, by simp only [aresults, aresult, XS.as, Tryd.results45, aload, go_sem, Option.bind_some]; rfl, ?_⟩)
                exact ⟨ids_idB rfl, by rw [hR2], trivial⟩
end Go.Proofs.YtghdacijcnmhlaaDoor
