import Derived.Test.YtcanlckenjndbaaMgAU
import Derived.Test.YtcanlckenjndbaaMgAS
namespace Go.Proofs.Ytcanlckenjndbaa
open Go.RowKit
set_option linter.unusedVariables false
set_option linter.unusedSimpArgs false
section
variable {P : Program} {m : Nat} {G0 : Gh} {H : AHeap}
def ADM0 (P : Program) (m : Nat) (G0 : Gh) (ops : Array Oper) (H : AHeap) (K : List AV → MS → Prop) : List Oper → List Kd → List AV → MS → Prop
  | [], _, fr, M => K fr M
  | o :: l, al, fr, M => ∃ x M', Op3 P m G0 ops H o fr M M' x (al.headD .free).al ∧ ADM0 P m G0 ops H K l al.tail (putL fr o.dst x) M'
theorem op3_strip {ops : List Oper} {n : Nat} (hn : topD (dsts ops) ≤ n) {o : Oper} {fr : List AV} {M M' : MS} {x : AV} {b : Bool} (h : Op3 P m G0 (idB n) H (strip (dsts ops) o) fr M M' x b) : Op3 P m G0 ops.toArray H o fr M M' x b := by
  cases h with
  | skip e h2 => exact .skip e (by rw [← awanted_strip hn]; exact h2)
  | does x e h1 h2 => exact .does _ e (by rw [← awanted_strip hn]; exact h1) (does_strip hn h2)
  | turn x h1 h2 =>
    refine .turn _ (by rw [← awanted_strip hn]; exact h1) fun Q G a w K hl hM hi hk => ?_
    rw [← wp_strip (dsts ops)]
    exact h2 Q G a w K hl hM hi ⟨hk.1, fun t ht => hk.2 t (by rw [← looks_strip hn]; exact ht)⟩
theorem ADM0_strip {ops : List Oper} {n : Nat} (hn : topD (dsts ops) ≤ n) {K : List AV → MS → Prop} : ∀ {l : List Oper} {al : List Kd} {fr : List AV} {M : MS}, ADM0 P m G0 (idB n) H K (l.map (strip (dsts ops))) al fr M → ADM0 P m G0 ops.toArray H K l al fr M
  | [], al, fr, M, h => h
  | o :: l, al, fr, M, h => by
    obtain ⟨x, M', h1, h2⟩ := h
    exact ⟨x, M', op3_strip hn h1, ADM0_strip hn h2⟩
theorem ADM0.fns {ops : Array Oper} {K : List AV → MS → Prop} : ∀ {l : List Oper} {al : List Kd} {fr : List AV} {M : MS}, ADM0 P m G0 ops H K l al fr M →
    ∃ (X : Nat → AV) (F : Nat → List AV) (Mk : Nat → MS), F 0 = fr ∧ Mk 0 = M ∧ K (F l.length) (Mk l.length) ∧ ∀ j o, l[j]? = some o → Op3 P m G0 ops H o (F j) (Mk j) (Mk (j + 1)) (X j) (al.getD j .free).al ∧ F (j + 1) = putL (F j) o.dst (X j)
  | [], al, fr, M, h => ⟨fun _ => uD, fun _ => fr, fun _ => M, rfl, rfl, h, fun j o e => by simp at e⟩
  | o :: l, al, fr, M, h => by
    obtain ⟨x, M', h1, h2⟩ := h
    obtain ⟨X, F, Mk, e1, e2, e3, e4⟩ := ADM0.fns h2
    refine ⟨consF x X, consF fr F, consF M Mk, rfl, rfl, e3, fun j o' e => ?_⟩
    cases j with
    | zero =>
      simp only [List.getElem?_cons_zero, Option.some.injEq] at e; subst e
      refine ⟨?_, e1⟩
      show Op3 P m G0 ops H o fr M (Mk 0) x (al.getD 0 .free).al
      rw [e2]
      cases al <;> exact h1
    | succ j =>
      simp only [List.getElem?_cons_succ] at e
      have := e4 j o' e
      cases al <;> exact this
def ADX (P : Program) (m : Nat) (H : AHeap) (K : List AV → MS → Prop) (p : List Oper × List Kd × List AV × MS) : Prop := ∀ n, p.2.2.1.length ≤ n → ∀ G0, ADM0 P m G0 (idB n) H K p.1 p.2.1 p.2.2.1 p.2.2.2
def mapOp : Op → Bool
  | .mapUpdate _ _ _ _ | .lookup _ _ _ _ => true
  | .call c => match c.callee with
    | .builtin .delete => true
    | _ => false
  | _ => false
def alM (l : List Oper) : List Kd := l.map fun o => if mapOp o.op = true then .grow else .free
variable {tt : TT} {fr : List AV} {o : Oper} {l : List Oper} {al : List Kd} {K : List AV → MS → Prop} {M : MS}
theorem ADX_nil (h : K fr M) : ADX P m H K ([], al, fr, M) := fun n hn G0 => h
theorem ADX_id {p : List Oper × List Kd × List AV × MS} (h : ADX P m H K p) : ADX P m H K p := h
theorem ADX_op (hT : TyOK P tt) (hr : roOp o.op = true) (hw : wantedS fr o = some true) (h : match aop tt ⟨fr, H⟩ o with | some (x, _) => ADX P m H K (l, al, putL fr o.dst x, M) | none => False) : ADX P m H K (o :: l, .free :: al, fr, M) := fun n hn G0 => by
  cases hx : aop tt ⟨fr, H⟩ o with
  | none => rw [hx] at h; exact h.elim
  | some p =>
    obtain ⟨x, H'⟩ := p
    rw [hx] at h
    have := aop_ro hr hx
    subst this
    exact ⟨x, M, .does x rfl (wanted_iff hn hw) (does_aop hT hx), h n (by show (putL _ _ _).length ≤ n; rw [putL_len]; exact hn) G0⟩
theorem ADX_skip (hw : wantedS fr o = some false) (h : ADX P m H K (l, al, putL fr o.dst uD, M)) : ADX P m H K (o :: l, .free :: al, fr, M) := fun n hn G0 =>
  ⟨uD, M, .skip rfl (wanted_iff hn hw), h n (by show (putL _ _ _).length ≤ n; rw [putL_len]; exact hn) G0⟩
theorem AX_drawM {Q : Exit → XS → Prop} (hmx : P.follows .mixedOrders = true) {id : Nat} {ops : List Oper} (hord : ordOK ops.toArray ops.length (alM ops) = true)
    (h : ∀ (K : List AV → MS → Prop), (∀ F M', Q .normal ⟨F, H, M'⟩ → K F M') → ADX P m H K (ops.map (strip (dsts ops)), alM ops, fr, M)) : AX P m (.region id ops.toArray true) Q ⟨fr, H, M⟩ := fun G0 G a w hm hl0 hM hr => by
  have hsz : ops.toArray.size = ops.length := by simp
  have ord : Ord ops.toArray ops.toArray.size (alM ops) := by rw [hsz]; exact ord_of hord
  obtain ⟨X, F, Mk, e1, e2, e3, e4⟩ := (ADM0_strip (n := max fr.length (topD (dsts ops))) (Nat.le_max_right _ _) (h (fun F M' => Q .normal ⟨F, H, M'⟩) (fun _ _ h => h) (max fr.length (topD (dsts ops))) (Nat.le_max_left _ _) G0)).fns
  refine wp_region_any hmx ?_
  refine any3 (m := m) (G0 := G0) (H := H) (X := X) (F := F) (Mk := Mk) ord ⟨fun k o ho => e4 k o (by simpa using ho)⟩ hm (R := PostX m G0 Q) (fun G' a' w' k1 k2 k3 => ⟨G', ⟨F ops.toArray.size, H, Mk ops.toArray.size⟩, k1, k2, hm, k3, by rw [hsz]; exact e3⟩) ops.toArray.size (Array.replicate ops.toArray.size false) a { w with drawn := w.drawn + 1 } G 0 ?_ ?_ hr.defers ?_ (Nat.zero_le _) ?_ hr.inv.drew hl0 (by rw [e2]; exact hM)
  · simp [left]
  · refine ⟨by simp, fun j hj => ?_⟩
    simp [Array.getD] at hj
  · refine ⟨by rw [e1]; have := hr.fr.1; simp at this; exact this.symm, fun t j ht hj hl => ?_, fun t ht _ => ?_⟩
    · simp [Array.getD] at hl
    · rw [e1, arr_getD]; exact hr.fr.getD t
  · intro j hj ha
    simp [Array.getD]
theorem AX_drawM1 {Q : Exit → XS → Prop} (hmx : P.follows .mixedOrders = true) {id : Nat} {ops : List Oper} (hany : (ops.any fun o => mapOp o.op) = true) (hord : ordOK ops.toArray ops.length (alM ops) = true)
    (h : ∀ (K : List AV → MS → Prop), (∀ F M', Q .normal ⟨F, H, M'⟩ → K F M') → ADX P m H K (ops.map (strip (dsts ops)), alM ops, fr, M)) : AX P m (.region id ops.toArray true) Q ⟨fr, H, M⟩ := AX_drawM hmx hord h
end
section
variable {m : Nat} {H : AHeap} {fr : List AV} {l : List Oper} {al : List Kd} {K : List AV → MS → Prop} {M : MS} {t e : TypeId} {d : Option Tmp} {ty : TypeId} {pos : String} {after : Array Edge} {g : Option (Nat × Bool)}
end
end Go.Proofs.Ytcanlckenjndbaa
namespace Go.Proofs.Ytcanlckenjndbaa
open Go.RowKit
set_option linter.unusedVariables false
set_option linter.unusedSimpArgs false
section
variable {P : Program} {tt : TT} {m : Nat} {Q : Exit → XS → Prop} {fr : List AV} {H : AHeap} {M : MS} {l : List Oper} {o : Oper} {n0 : Nat} {us : List Nat} {H0 Hc : AHeap} {K : List AV → AHeap → Prop} {al : List Kd}
theorem ADR_free0 (hT : TyOK P tt) (hr : roOp o.op = true) (hw : wantedS fr o = some true) (h : match aop tt ⟨fr, []⟩ o with | some (x, _) => ADR P n0 us H0 K Hc (l, al, putL fr o.dst x) | none => False) : ADR P n0 us H0 K Hc (o :: l, .free :: al, fr) := fun n hn => by
  cases hx : aop tt ⟨fr, []⟩ o with
  | none => rw [hx] at h; exact h.elim
  | some p =>
    obtain ⟨x, H'⟩ := p
    rw [hx] at h
    have := aop_ro hr hx
    subst this
    exact ⟨x, Hc, none, .free x (wanted_iff hn hw) fun H => does_aop hT (aop_mono (H0 := []) ⟨Nat.zero_le _, fun o x e => by simp at e⟩ hr hx), h n (by show (putL _ _ _).length ≤ n; rw [putL_len]; exact hn)⟩
def kdOf2 (c : Bool) (op : Op) : Kd := match op with
  | .load _ _ => .free
  | op => kdOf c op
def alD2 (ops : List Oper) : List Kd := ops.map fun o => kdOf2 (ops.any fun o => isApp o.op) o.op
end
end Go.Proofs.Ytcanlckenjndbaa
namespace Go.Proofs.Ytcanlckenjndbaa
open Go.RowKit
set_option linter.unusedVariables false
set_option linter.unusedSimpArgs false
structure SX (P : Program) (f : FuncId) (args : List AV) (H : AHeap) (M : MS) (Q : AV → AHeap → MS → Prop) : Prop where
  callable : Callable P f
  calls : ∀ (K : Nat → Option Obj) (G : Gh) (w : World) (vs : List Value), (∀ b x, K b = some x → G.kp b = some x) → MOK K G M → Inv G H w → RL H.length G args vs → Calls P f vs.toArray w fun e w' => ∃ v r G' H' M', e = .returned v ∧ Gh.leb H.length { G with kp := K } G' ∧ MOK K G' M' ∧ H.length ≤ H'.length ∧ Inv G' H' w' ∧ RA H'.length G' r v ∧ Q r H' M'
theorem SX.mono {P : Program} {f : FuncId} {args : List AV} {H : AHeap} {M : MS} {Q Q' : AV → AHeap → MS → Prop} (h : SX P f args H M Q) (hq : ∀ r H' M', Q r H' M' → Q' r H' M') : SX P f args H M Q' :=
  ⟨h.callable, fun K G w vs hk hm hi hr => (h.calls K G w vs hk hm hi hr).mono fun e w' ⟨v, r, G', H', M', h1, h2, h3, h4, h5, h6, h7⟩ => ⟨v, r, G', H', M', h1, h2, h3, h4, h5, h6, hq _ _ _ h7⟩⟩
section
variable {P : Program} {tt : TT} {m : Nat} {Q : Exit → XS → Prop} {fr : List AV} {H : AHeap} {M : MS} {l : List Oper} {o : Oper}
def bodyXM (P : Program) (fn : Func) (load : AHeap → TypeId → AV → Option AV) (Q : AV → AHeap → MS → Prop) : Exit → XS → Prop
  | .normal, s | .ret, s => ∃ r, aresults P fn s.as (load s.H) = some r ∧ Q r s.H s.M
  | _, _ => False
theorem SX.of {f : FuncId} {args : List AV} {Q : AV → AHeap → Prop} (h : SF P f args H Q) : SX P f args H M fun r H' M' => Q r H' ∧ M' = M :=
  ⟨h.callable, fun K G w vs hk hm hi hr => (h.calls G w vs hi hr).mono fun e w' ⟨v, r, G', H', h1, h2, h3, h4, h5, h6⟩ =>
    ⟨v, r, G', H', M, h1, ⟨fun o ho hd => h2.mu o hd, fun o ho hd => h2.sz o hd, fun o ho hd => h2.dom o hd, h2.back, h2.fz, fun b x e => h2.kp b x (hk b x e), fun b x y e f => h2.new b x y (hk b x e) f, h2.os, h2.tape, h2.output⟩, hm.leb (h2.leb (Nat.le_refl _)), h3, h4, h5, h6, rfl⟩⟩
theorem RL.kpany {n : Nat} {G : Gh} {kp : Nat → Option Obj} {xs : List AV} {vs : List Value} (h : RL n G xs vs) : RL n { G with kp := kp } xs vs := ⟨h.1, fun i x v e e' => (h.2 i x v e e').kpany⟩
theorem Rst.call {G0 G G' : Gh} {s : AS} {H' : AHeap} {a : Act} {w w' : World} {x : AV} {v : Value} {kp : Nat → Option Obj} (hr : Rst G s a w) (h : Gh.leb s.H.length { G with kp := kp } G') (hn : s.H.length ≤ H'.length) (hi : Inv G' H' w') (hx : RA H'.length G' x v) (d : Option Tmp) : Rst G' ⟨putL s.fr d x, H'⟩ (a.put d v) w' := by
  have hle : Gh.le s.H.length { G with kp := kp } G' := h.le hr.inv.dom
  have hfr : RL H'.length G' s.fr a.tmps.toList := (RL.kpany (kp := kp) hr.fr).mono hle hn
  refine ⟨?_, ?_, hi⟩
  · cases d <;> exact hr.defers
  · cases d with
    | none => exact hfr
    | some d =>
      simp only [putL, Act.put, Array.toList_setIfInBounds]
      exact hfr.set d hx
end
end Go.Proofs.Ytcanlckenjndbaa
