import Derived.Test.YtcjnikkmjhagmaaGreatDoorMgAK
namespace Go.Proofs.YtcjnikkmjhagmaaGreatDoor
open Go.RowKit
set_option linter.unusedVariables false
set_option linter.unusedSimpArgs false
section
variable {P : Program} {tt : TT} {m : Nat} {Q : Exit → XS → Prop} {fr : List AV} {H : AHeap} {M : MS} {l : List Oper} {o : Oper}
def XRes (P : Program) (m : Nat) (Q : Exit → XS → Prop) (p : List Oper × XS) : Prop := ∀ n, p.2.fr.length ≤ n → ∀ G0 G a w, m ≤ p.2.H.length → Gh.leb m G0 G → MOK G0.kp G p.2.M → Rst G p.2.as a w → wpList P (idB n) (PostX m G0 Q) p.1 a w
theorem XRes_id {p : List Oper × XS} (h : XRes P m Q p) : XRes P m Q p := h
theorem XRes_nil {s : XS} (h : Q .normal s) : XRes P m Q ([], s) := fun n hn G0 G a w hm hl hM hr => PostX.now hm hl hM hr h
theorem XRes_lead {S : XS → Prop} {s : XS} (h : LeadX m s S) (k : ∀ s', S s' → s'.fr.length = s.fr.length → XRes P m Q (l, s')) : XRes P m Q (l, s) := fun n hn G0 G a w hm hl hM hr => by
  obtain ⟨G1, s1, h1, h2, h3, h4, h5⟩ := h G0 G a w hm hl hM hr
  have e : s1.fr.length = s.fr.length := h4.fr.1.trans hr.fr.1.symm
  exact k s1 h5 e n (by rw [e]; exact hn) G0 G1 a w h3 h1 h2 h4
theorem XRes_skip (hw : wantedS fr o = some false) (h : XRes P m Q (l, ⟨putL fr o.dst uD, H, M⟩)) : XRes P m Q (o :: l, ⟨fr, H, M⟩) := fun n hn G0 G a w hm hl hM hr => by
  unfold wpList
  rw [hr.wanted (ops := idB n) (o := o) (b := false) (by rw [wantedS_ok hn]; exact hw)]
  exact h n (by show (putL _ _ _).length ≤ n; rw [putL_len]; exact hn) G0 G _ w hm hl hM (hr.put (Gh.le.refl _ _) (Nat.le_refl _) hr.inv (.iv _ _ (.lit _)) o.dst)
theorem XRes_gives {x : AV} {H' : AHeap} (hw : wantedS fr o = some true) (hg : Gives1 P ⟨fr, H⟩ o x H') (h : XRes P m Q (l, ⟨putL fr o.dst x, H', M⟩)) : XRes P m Q (o :: l, ⟨fr, H, M⟩) := fun n hn G0 G a w hm hl hM hr => by
  unfold wpList
  rw [if_pos (hr.wanted (ops := idB n) (o := o) (b := true) (by rw [wantedS_ok hn]; exact hw))]
  obtain ⟨G', v, w', hrun, hle, hn', hi, hx⟩ := hg G a w hr
  have hr' := hr.put hle hn' hi hx o.dst
  have hl' := h n (by show (putL _ _ _).length ≤ n; rw [putL_len]; exact hn) G0 G' _ w' (Nat.le_trans hm hn') (hl.trans (hle.leb hm)) (hM.leb (hle.leb hm)) hr'
  refine .inl ?_
  unfold Oper.wp
  rcases hrun with hrun | ⟨hrun, rfl⟩
  · rw [hrun]; exact hl'
  · rw [hrun]; exact hl'
theorem XRes_op (hT : TyOK P tt) (hw : wantedS fr o = some true) (h : match aop tt ⟨fr, H⟩ o with | some (x, H') => XRes P m Q (l, ⟨putL fr o.dst x, H', M⟩) | none => False) : XRes P m Q (o :: l, ⟨fr, H, M⟩) := by
  cases hx : aop tt ⟨fr, H⟩ o with
  | none => rw [hx] at h; exact h.elim
  | some p =>
    obtain ⟨x, H'⟩ := p
    rw [hx] at h
    exact XRes_gives hw (aop_gives hT hx) h
theorem XRes_splitG {d : Option Tmp} {op : Op} {ty : TypeId} {pos : String} {after : Array Edge} {j : Nat} {want b : Bool} (hj : fr[j]? = some (lt (.bool b)))
    (ht : b = true → XRes P m Q (⟨d, op, ty, pos, after, some (j + 1, want)⟩ :: l, ⟨fr.set j (lt (.bool true)), H, M⟩)) (hf : b = false → XRes P m Q (⟨d, op, ty, pos, after, some (j + 1, want)⟩ :: l, ⟨fr.set j (lt (.bool false)), H, M⟩)) : XRes P m Q (⟨d, op, ty, pos, after, some (j + 1, want)⟩ :: l, ⟨fr, H, M⟩) := by
  have e : ∀ {x : AV}, fr[j]? = some x → fr.set j x = fr := fun {x} hx => by
    apply List.ext_getElem?
    intro i
    by_cases hi : j = i
    · subst hi; rw [List.getElem?_set_self (List.getElem?_eq_some_iff.1 hx).1, hx]
    · rw [List.getElem?_set_ne hi]
  cases b with
  | true => have := ht rfl; rwa [e hj] at this
  | false => have := hf rfl; rwa [e hj] at this
theorem ADF_splitG {H0 : AHeap} {K : List AV → AHeap → Prop} {d : Option Tmp} {op : Op} {ty : TypeId} {pos : String} {after : Array Edge} {j : Nat} {want b : Bool} (hj : fr[j]? = some (lt (.bool b)))
    (ht : b = true → ADF P H0 K (⟨d, op, ty, pos, after, some (j + 1, want)⟩ :: l, fr.set j (lt (.bool true)))) (hf : b = false → ADF P H0 K (⟨d, op, ty, pos, after, some (j + 1, want)⟩ :: l, fr.set j (lt (.bool false)))) : ADF P H0 K (⟨d, op, ty, pos, after, some (j + 1, want)⟩ :: l, fr) := by
  have e : ∀ {x : AV}, fr[j]? = some x → fr.set j x = fr := fun {x} hx => by
    apply List.ext_getElem?
    intro i
    by_cases hi : j = i
    · subst hi; rw [List.getElem?_set_self (List.getElem?_eq_some_iff.1 hx).1, hx]
    · rw [List.getElem?_set_ne hi]
  cases b with
  | true => have := ht rfl; rwa [e hj] at this
  | false => have := hf rfl; rwa [e hj] at this
theorem ADF_id {H0 : AHeap} {K : List AV → AHeap → Prop} {p : List Oper × List AV} (h : ADF P H0 K p) : ADF P H0 K p := h
theorem XRes_callv {d : Option Tmp} {fo : Operand} {args : Array Operand} {tys : Array TypeId} {ty : TypeId} {pos : String} {after : Array Edge} {g : Option (Nat × Bool)}
    (hw : wantedS fr ⟨d, .call { callee := .value fo, args := args, argTypes := tys }, ty, pos, after, g⟩ = some true)
    {f : FuncId} {first caps : List AV} (hf : AS.ev ⟨fr, H⟩ fo = .fn f first caps) {K : AV → AHeap → Prop} (hc : SF P f (first ++ args.toList.map (AS.ev ⟨fr, H⟩) ++ caps) H K)
    (h : ∀ r H', H.length ≤ H'.length → K r H' → XRes P m Q (l, ⟨putL fr d r, H', M⟩)) : XRes P m Q (⟨d, .call { callee := .value fo, args := args, argTypes := tys }, ty, pos, after, g⟩ :: l, ⟨fr, H, M⟩) := fun n hn G0 G a w hm hl hM hr => by
  unfold wpList
  rw [if_pos (hr.wanted (ops := idB n) (b := true) (by rw [wantedS_ok hn]; exact hw))]
  refine .inl ?_
  have hfe := hr.ev fo
  rw [hf] at hfe
  generalize hfv : a.eval fo = fv at hfe
  cases hfe with
  | fn _ _ _ vs us h1 h2 h3 h4 =>
    have hargs : RL H.length G (first ++ args.toList.map (AS.ev ⟨fr, H⟩) ++ caps) (vs ++ args.toList.map a.eval ++ us) := RL.append (RL.append ⟨h1, h3⟩ (AS.args hr _)) ⟨h2, h4⟩
    have hrun : (execOp a.eval ⟨d, .call { callee := .value fo, args := args, argTypes := tys }, ty, pos, after, g⟩).run P w = .ok (.enter f (vs ++ args.toList.map a.eval ++ us).toArray) w := by
      have e : (vs ++ args.toList.map a.eval ++ us).toArray = vs.toArray ++ args.map a.eval ++ us.toArray := by
        apply Array.toList_inj.1; simp
      rw [e]
      simp [execOp, resolve, hfv, Deferred.ofValue, invoke, run_enter hc.callable]
    unfold Oper.wp
    rw [hrun]
    refine (hc.calls G w _ hr.inv hargs).mono fun e w' hp => ?_
    obtain ⟨v, r, G', H', rfl, hle, hn', hi, hx, hk⟩ := hp
    exact h r H' hn' hk n (by show (putL _ _ _).length ≤ n; rw [putL_len]; exact hn) G0 G' _ w' (Nat.le_trans hm hn') (hl.trans (hle.leb hm)) (hM.leb (hle.leb hm)) (hr.put hle hn' hi hx d)
theorem XRes_fn {d : Option Tmp} {f : FuncId} {args : Array Operand} {tys : Array TypeId} {ty : TypeId} {pos : String} {after : Array Edge} {g : Option (Nat × Bool)}
    (hw : wantedS fr ⟨d, .call { callee := .value (.func f), args := args, argTypes := tys }, ty, pos, after, g⟩ = some true) {K : AV → AHeap → Prop} (hc : SF P f (args.toList.map (AS.ev ⟨fr, H⟩)) H K)
    (h : ∀ r H', K r H' → XRes P m Q (l, ⟨putL fr d r, H', M⟩)) : XRes P m Q (⟨d, .call { callee := .value (.func f), args := args, argTypes := tys }, ty, pos, after, g⟩ :: l, ⟨fr, H, M⟩) :=
  XRes_callv hw rfl (by simpa using hc) fun r H' _ hk => h r H' hk
theorem XRes_slot {d : Option Tmp} {t : Tmp} {args : Array Operand} {tys : Array TypeId} {ty : TypeId} {pos : String} {after : Array Edge} {g : Option (Nat × Bool)}
    (hw : wantedS fr ⟨d, .call { callee := .value (.tmp t), args := args, argTypes := tys }, ty, pos, after, g⟩ = some true)
    {f : FuncId} {first caps : List AV} (hf : fr[t]? = some (.fn f first caps)) {K : AV → AHeap → Prop} (hc : SF P f (first ++ args.toList.map (AS.ev ⟨fr, H⟩) ++ caps) H K)
    (h : ∀ r H', K r H' → XRes P m Q (l, ⟨putL fr d r, H', M⟩)) : XRes P m Q (⟨d, .call { callee := .value (.tmp t), args := args, argTypes := tys }, ty, pos, after, g⟩ :: l, ⟨fr, H, M⟩) :=
  XRes_callv hw (by show fr.getD t uD = _; rw [List.getD_eq_getElem?_getD, hf]; rfl) hc fun r H' _ hk => h r H' hk
theorem XRes_tell {d : Option Tmp} {f : FuncId} {args : Array Operand} {tys : Array TypeId} {ty : TypeId} {pos : String} {after : Array Edge} {g : Option (Nat × Bool)}
    (hw : wantedS fr ⟨d, .call { callee := .value (.func f), args := args, argTypes := tys }, ty, pos, after, g⟩ = some true) {x : AV} (hc : PF P f (args.toList.map (AS.ev ⟨fr, H⟩)) fun r H' => r = x ∧ H' = []) (hargs : ∀ a ∈ args.toList.map (AS.ev ⟨fr, H⟩), Ids 0 a) (hx : ∀ k, x.ren k = x)
    (h : XRes P m Q (l, ⟨putL fr d x, H, M⟩)) : XRes P m Q (⟨d, .call { callee := .value (.func f), args := args, argTypes := tys }, ty, pos, after, g⟩ :: l, ⟨fr, H, M⟩) :=
  XRes_fn hw (K := fun r H1 => r = x ∧ H1 = H) (by simpa using PF.tells (H := H) hargs hx hc) fun r H' ⟨e1, e2⟩ => by subst e1 e2; exact h
theorem XRes_freeze (ds : List Nat) (ups : List (Nat × AV)) (hu : ∀ p ∈ ups, FrzV (onlyH ds H) (fr.getD p.1 uD) p.2) (h : XRes P m Q (l, ⟨updS fr ups, setN ds H, M⟩)) : XRes P m Q (l, ⟨fr, H, M⟩) :=
  XRes_lead (S := fun s1 => s1 = ⟨updS fr ups, setN ds H, M⟩) (.of (.freeze ds ups hu rfl)) fun s' e _ => by rw [e]; exact h
theorem XRes_lit (hT : TyOK P tt) (y : IV) (hw : wantedS fr o = some true) {x : AV} {obj : AObj} (ha : aop tt ⟨fr, H⟩ o = some (x, H ++ [some obj])) (hs : SnapC (onlyH [H.length] (H ++ [some obj])) x y) (h : XRes P m Q (l, ⟨putL fr o.dst (.iv y), H, M⟩)) : XRes P m Q (o :: l, ⟨fr, H, M⟩) := fun n hn G0 G a w hm hl hM hr => by
  unfold wpList
  rw [if_pos (hr.wanted (ops := idB n) (o := o) (b := true) (by rw [wantedS_ok hn]; exact hw))]
  refine .inl ?_
  refine does_lit (ops := idB n) hT ha hs _ G a w _ hr.inv ⟨by simpa using hr.fr.1, fun t _ => by rw [arr_getD]; exact hr.fr.getD t⟩ fun G' v w' hle hn' hi hx => ?_
  exact h n (by show (putL _ _ _).length ≤ n; rw [putL_len]; exact hn) G0 G' _ w' (Nat.le_trans hm hn') (hl.trans (hle.leb hm)) (hM.leb (hle.leb hm)) (hr.put hle hn' hi hx o.dst)
theorem AX_reg0 {id : Nat} {ops : List Oper} {s : XS} (h : ∀ K : XS → Prop, (∀ s, Q .normal s → K s) → XRes P m (thenX K fun _ _ => False) (ops.map (strip (dsts ops)), s)) : AX P m (.region id ops.toArray false) Q s := fun G0 G a w hm hl hM hr => by
  refine wp_region_list ?_
  have hx := h (fun s => Q .normal s) (fun _ h => h) (max s.fr.length (topD (dsts ops))) (Nat.le_max_left _ _) G0 G a w hm hl hM hr
  have hx' : wpList P (idB (max s.fr.length (topD (dsts ops)))) (PostX m G0 Q) (ops.map (strip (dsts ops))) a w := wpList_mono (fun e a w ⟨G', s', h1, h2, h3, h4, h5⟩ => ⟨G', s', h1, h2, h3, h4, by cases e <;> first | exact h5 | exact h5.elim⟩) _ _ _ hx
  rw [wpList_strip (Nat.le_max_right _ _)] at hx'
  simpa using hx'
theorem AX_drawG (hT : TyOK P tt) (hm : P.follows .mixedOrders = true) {id : Nat} {ops : List Oper} (hord : ordOK ops.toArray ops.length (alG ops) = true)
    (h : ∀ (K : List AV → AHeap → Prop), (∀ F H', Q .normal ⟨F, H', M⟩ → K F H') → ADF P H K (ops.map (strip (dsts ops)), fr)) : AX P m (.region id ops.toArray true) Q ⟨fr, H, M⟩ :=
  AX_of (AW_drawG hT hm _ rfl hord fun K hK => h K fun F H' hq => hK F H' hq)
theorem AX_drawN (hT : TyOK P tt) (hmx : P.follows .mixedOrders = true) {id : Nat} {ops : List Oper} (N : Nat) (k : Nat) (hord : ordOK ops.toArray N (alD (ops.take N)) = true)
    (h : ∀ (K : List AV → AHeap → Prop), (∀ F H', XRes P m Q ((ops.drop N).map (strip (dsts ops)), ⟨F, H', M⟩) → K F H') → ADR P H.length [] (extH k H) K (extH k H) ((ops.take N).map (strip (dsts ops)), alD (ops.take N), fr)) : AX P m (.region id ops.toArray true) Q ⟨fr, H, M⟩ := fun G0 G a w hm hl0 hM hr => by
  have ord := ord_of hord
  have hN : N ≤ ops.length := by simpa using ord.le_size
  obtain ⟨X, F, Hh, Lf, HF, e1, e2, e3, e4, e5, e6, e7, e8⟩ := (ADS_strip (h (fun F H' => XRes P m Q ((ops.drop N).map (strip (dsts ops)), ⟨F, H', M⟩)) fun _ _ h => h)).fns (Nat.le_refl _)
  have hl : (ops.take N).length = N := by simp [hN]
  rw [hl] at e3 e5 e7
  have st : Steps1 P ops.toArray N _ X F Hh Lf := ⟨fun j o hj ho => by
    have : (ops.take N)[j]? = some o := by rw [List.getElem?_take_of_lt hj]; simpa using ho
    have := e4 j o this
    rw [e2]; exact this⟩
  have hlen := extH_len H k
  have hout : ∀ q, H.length ≤ q → ¬ G.dom q := fun q hq hd => by have := hr.inv.dom q hd; simp at this; omega
  refine wp_region_any hmx ?_
  have key := any_mainR (G0 := G) (n0 := H.length) ord st (R := PostX m G0 Q) (by rw [e2]; exact e5) (HF := HF) e7 (fun G' a' w' hle hn0 hr' => by
    have h3 := e3 (max (F N).length (topD (dsts ops))) (Nat.le_max_left _ _) G0 G' a' w' (by show m ≤ HF.length; have : m ≤ H.length := hm; omega) (hl0.trans (hle.leb hm)) (hM.leb (hle.leb hm)) hr'
    have h4 : wpList P (idB (max (F N).length (topD (dsts ops)))) (PostX m G0 Q) ((ops.drop N).map (strip (dsts ops))) a' w' := h3
    rw [wpList_strip (Nat.le_max_right _ _)] at h4
    simpa using h4) ops.toArray.size (Array.replicate ops.toArray.size false) a { w with drawn := w.drawn + 1 } G 0 (extH k H) ?_ (fun j q obj h1 h2 _ => hout q (e5.none j q obj h1 h2).2) ?_ ?_ ?_ hr.defers ?_ (Nat.zero_le _) ?_ ?_ (Gh.le.refl _ _) ?_
  · exact key
  · rw [e2]
    refine ⟨rfl, fun _ _ => rfl, fun j q obj h1 h2 => ?_⟩
    rw [(e5.none j q obj h1 h2).1]; simp [Array.getD]
  · simp [left]
  · refine ⟨by simp, fun j hj => ?_⟩
    simp [Array.getD] at hj
  · intro j hj; simp [Array.getD]
  · refine ⟨by rw [e1]; have := hr.fr.1; simp at this; exact this.symm, fun t j ht hj hl => ?_, fun t ht _ => ?_⟩
    · simp [Array.getD] at hl
    · rw [e1, e2, arr_getD]; exact (hr.fr.getD t).mono (Gh.le.refl 0 G) (by show H.length ≤ (extH k H).length; omega)
  · intro j hj ha
    simp [Array.getD]
  · exact (hr.inv.extends k).drew
  · rw [e2]; omega
theorem XRes_mid {y : Code} {Q1 : Exit → XS → Prop} {K K0 : XS → Prop} {E : Exit → XS → Prop} (ds : List Nat) (ups : List (Nat × AV)) (H' : AHeap) (M' : MS) (hK : ∀ s, K0 s → K s) (hK0 : ContX K0 (AX P m y Q1)) (hx : ∀ K' : XS → Prop, (∀ s, MidX m ds ups H' M' fr s → K' s) → XRes P m (thenX K' E) (l, ⟨fr, H, M⟩))
    (hy : ∀ (d : Nat → Value) (fr1 : List AV), fr1 = updS (deadS fr (fun i => lt (d i)) ds) ups → AX P m y Q1 ⟨fr1, H', M'⟩) : XRes P m (thenX K E) (l, ⟨fr, H, M⟩) :=
  hx K fun s h => hK s (hK0.use (AX_lead h fun s1 ⟨d, e⟩ => by rw [e]; exact hy d _ rfl))
theorem ADF_mid {y : Code} {Q1 : Exit → XS → Prop} {K : List AV → AHeap → Prop} {K0 : XS → Prop} {H0 : AHeap} (ds : List Nat) (ups : List (Nat × AV)) (H' : AHeap) (M' : MS) (hK : ∀ F H1, K0 ⟨F, H1, M⟩ → K F H1) (hK0 : ContX K0 (AX P m y Q1)) (hx : ∀ K' : List AV → AHeap → Prop, (∀ F H1, MidX m ds ups H' M' fr ⟨F, H1, M⟩ → K' F H1) → ADF P H0 K' (l, fr))
    (hy : ∀ (d : Nat → Value) (fr1 : List AV), fr1 = updS (deadS fr (fun i => lt (d i)) ds) ups → AX P m y Q1 ⟨fr1, H', M'⟩) : ADF P H0 K (l, fr) :=
  hx K fun F H1 h => hK F H1 (hK0.use (AX_lead h fun s1 ⟨d, e⟩ => by rw [e]; exact hy d _ rfl))
theorem Inv.block_set {G : Gh} {H : AHeap} {w w' : World} (h : Inv G H w) {b : Nat} {ob : Obj} (hfz : G.fz b = none) (hobj : ∀ o x, H[o]? = some (some x) → G.sz o ≠ 0 → (G.mu o).1 ≠ b) (hb : w'.heap[b]? = some ob) (hg : w.grownBy w' (some b)) : Inv { G with kp := fun c => if c = b then some ob else G.kp c } H w' := by
  have same : ∀ {c x}, c ≠ b → w.heap[c]? = some x → w'.heap[c]? = some x := fun {c x} hc e => by rw [hg.block c (lt_of_heap e) (fun e => by cases e; exact hc rfl)]; exact e
  refine ⟨hg.os.trans h.os, hg.tape.trans h.tape, hg.output.trans h.output, fun c x e => ?_, fun c x e => ?_, h.dom, h.live, fun o x e => ?_, h.inj⟩
  · refine same (fun hc => ?_) (h.fz c x e)
    subst hc
    have e' : G.fz c = some x := e
    rw [hfz] at e'; cases e'
  · have e' : (if c = b then some ob else G.kp c) = some x := e
    split at e'
    · rename_i hc; subst hc; cases e'; exact hb
    · rename_i hc; exact same hc (h.kp c x e')
  · refine (h.obj o x e).imp id fun ⟨k0, cs, k1, k2, k3, k4, k5, k6⟩ => ⟨k0, cs, ?_⟩
    have hne := hobj o x e k0
    exact ⟨same hne k1, k2, ⟨k3.1, fun i y v e1 e2 => (k3.2 i y v e1 e2).kpany⟩, k4, k5, by show (if (G.mu o).1 = b then some ob else G.kp (G.mu o).1) = none; rw [if_neg hne]; exact k6⟩
theorem Rst.block_set {G : Gh} {s : AS} {a : Act} {w w' : World} (hr : Rst G s a w) {b : Nat} {ob : Obj} (hfz : G.fz b = none) (hobj : ∀ o x, s.H[o]? = some (some x) → G.sz o ≠ 0 → (G.mu o).1 ≠ b) (hb : w'.heap[b]? = some ob) (hg : w.grownBy w' (some b)) (d : Option Tmp) {x : AV} {v : Value} (hx : RA s.H.length G x v) : Rst { G with kp := fun c => if c = b then some ob else G.kp c } ⟨putL s.fr d x, s.H⟩ (a.put d v) w' := by
  refine ⟨?_, ?_, hr.inv.block_set hfz hobj hb hg⟩
  · cases d <;> exact hr.defers
  · have hfr : RL s.H.length { G with kp := fun c => if c = b then some ob else G.kp c } s.fr a.tmps.toList := ⟨hr.fr.1, fun i y v e1 e2 => (hr.fr.2 i y v e1 e2).kpany⟩
    cases d with
    | none => exact hfr
    | some d =>
      simp only [putL, Act.put, Array.toList_setIfInBounds]
      exact hfr.set d hx.kpany
theorem leb_block {m : Nat} {G0 G : Gh} (hl : Gh.leb m G0 G) {b : Nat} (ob : Obj) (hK : G0.kp b = none) (hfz : G.fz b = none) : Gh.leb m G0 { G with kp := fun c => if c = b then some ob else G.kp c } :=
  ⟨hl.mu, hl.sz, hl.dom, hl.back, hl.fz, fun c x e => (by
    show (if c = b then some ob else G.kp c) = some x
    rw [if_neg (fun hc => by rw [hc, hK] at e; cases e)]
    exact hl.kp c x e), hl.new, hl.os, hl.tape, hl.output⟩
theorem obj_ne {G : Gh} {H : AHeap} {w : World} (h : Inv G H w) {b : Nat} {ob : Obj} (hk : G.kp b = some ob) : ∀ o x, H[o]? = some (some x) → G.sz o ≠ 0 → (G.mu o).1 ≠ b := fun o x e hz heq => by
  obtain ⟨_, cs, k1, k2, k3, k4, k5, k6⟩ := (h.obj o x e).resolve_left fun q => hz q.2
  rw [heq, hk] at k6; cases k6
theorem XRes_makeMap {t : TypeId} {d : Option Tmp} {ty : TypeId} {pos : String} {after : Array Edge} {g : Option (Nat × Bool)} (hw : wantedS fr ⟨d, .makeMap t none, ty, pos, after, g⟩ = some true)
    (h : ∀ b, XRes P m Q (l, ⟨putL fr d (lt (.map (some b))), H, M ++ [(b, 0, fun _ => none)]⟩)) : XRes P m Q (⟨d, .makeMap t none, ty, pos, after, g⟩ :: l, ⟨fr, H, M⟩) := fun n hn G0 G a w hm hl hM hr => by
  unfold wpList
  rw [if_pos (hr.wanted (ops := idB n) (b := true) (by rw [wantedS_ok hn]; exact hw))]
  refine .inl ?_
  have hrun : (execOp a.eval ⟨d, .makeMap t none, ty, pos, after, g⟩).run P w = .ok (.value (.map (some w.heap.size))) (w.alloc (.map #[] 0)) := by
    simp [execOp, Instr.makeMap]
  unfold Oper.wp
  rw [hrun]
  obtain ⟨f1, f2⟩ := hr.inv.fresh
  have hK : G0.kp w.heap.size = none := by
    cases hk : G0.kp w.heap.size with
    | none => rfl
    | some x => have := hl.kp _ _ hk; rw [f2] at this; cases this
  have hobj : ∀ o x, H[o]? = some (some x) → G.sz o ≠ 0 → (G.mu o).1 ≠ w.heap.size := fun o x e hz heq => by
    obtain ⟨_, cs, k1, _⟩ := (hr.inv.obj o x e).resolve_left fun q => hz q.2
    have := lt_of_heap k1; omega
  have hb : (w.alloc (.map #[] 0)).heap[w.heap.size]? = some (.map #[] 0) := by show (w.heap.push _)[w.heap.size]? = _; simp
  have hr' := hr.block_set f1 hobj hb (World.grownBy_alloc w _ _) d (x := lt (.map (some w.heap.size))) (.iv _ _ (.lit _))
  refine h w.heap.size n (by show (putL _ _ _).length ≤ n; rw [putL_len]; exact hn) G0 _ _ _ hm (leb_block hl _ hK f1) ⟨fun e he => ?_, ?_⟩ hr'
  · rcases List.mem_append.1 he with he | he
    · obtain ⟨h1, h2, o, h3, h4⟩ := hM.one e he
      have hne : e.1 ≠ w.heap.size := fun heq => by rw [heq, f2] at h3; cases h3
      exact ⟨h1, h2, o, by show (if e.1 = w.heap.size then _ else _) = _; rw [if_neg hne]; exact h3, h4⟩
    · rw [List.mem_singleton.1 he]
      obtain ⟨o, h1, h2⟩ := (IMap.made w).at
      rw [hb] at h1; cases h1
      exact ⟨hK, f1, _, if_pos rfl, h2⟩
  · show (M ++ [(w.heap.size, 0, fun _ => none)]).Pairwise _
    refine List.pairwise_append.2 ⟨hM.two, List.pairwise_singleton _ _, fun e he e' he' heq => ?_⟩
    rw [List.mem_singleton.1 he'] at heq
    obtain ⟨_, _, o, h3, _⟩ := hM.one e he
    rw [heq, f2] at h3; cases h3
theorem MOK.at {K : Nat → Option Obj} {G : Gh} {w : World} (h : MOK K G M) (hi : Inv G H w) {i b k : Nat} {F : MC} (hM : M[i]? = some (b, k, F)) : K b = none ∧ G.fz b = none ∧ IMap w b k F ∧ ∃ o, G.kp b = some o := by
  obtain ⟨h1, h2, o, h3, h4⟩ := h.one _ (List.mem_iff_getElem?.2 ⟨i, hM⟩)
  exact ⟨h1, h2, h4 w (hi.kp _ _ h3), o, h3⟩
theorem XRes_turn {i b k k' : Nat} {F F' : MC} {v : Value} {x : AV} (hx : ∀ G : Gh, RA H.length G x v) (hM : M[i]? = some (b, k, F)) (hw : wantedS fr o = some true)
    (hrun : ∀ (a : Act) (w : World) G, Rst G ⟨fr, H⟩ a w → IMap w b k F → ∃ w', ((execOp a.eval o).run P w = .ok (.value v) w' ∨ ((execOp a.eval o).run P w = .ok .skip w' ∧ v = undef)) ∧ IMap w' b k' F' ∧ w.grownBy w' (some b))
    (h : XRes P m Q (l, ⟨putL fr o.dst x, H, M.set i (b, k', F')⟩)) : XRes P m Q (o :: l, ⟨fr, H, M⟩) := fun n hn G0 G a w hm hl hMM hr => by
  unfold wpList
  rw [if_pos (hr.wanted (ops := idB n) (o := o) (b := true) (by rw [wantedS_ok hn]; exact hw))]
  refine .inl ?_
  obtain ⟨c1, c2, c3, ob0, c4⟩ := hMM.at hr.inv hM
  obtain ⟨w', r1, r2, r3⟩ := hrun a w G hr c3
  obtain ⟨ob, o1, o2⟩ := r2.at
  have hr' := hr.block_set c2 (obj_ne hr.inv c4) o1 r3 o.dst (hx G)
  have hi : i < M.length := (List.getElem?_eq_some_iff.1 hM).1
  have hfin := h n (by show (putL _ _ _).length ≤ n; rw [putL_len]; exact hn) G0 _ _ w' hm (leb_block hl ob c1 c2) ⟨fun e he => by
    obtain ⟨j, hj⟩ := List.mem_iff_getElem?.1 he
    by_cases hji : i = j
    · subst hji
      rw [List.getElem?_set_self hi] at hj; cases hj
      exact ⟨c1, c2, ob, if_pos rfl, o2⟩
    · rw [List.getElem?_set_ne hji] at hj
      obtain ⟨h1, h2, ob', h3, h4⟩ := hMM.one e (List.mem_iff_getElem?.2 ⟨j, hj⟩)
      have hne : e.1 ≠ b := fun heq => by
        have ht := List.pairwise_iff_getElem.1 hMM.two
        obtain ⟨l1, e1⟩ := List.getElem?_eq_some_iff.1 hM
        obtain ⟨l2, e2⟩ := List.getElem?_eq_some_iff.1 hj
        rcases Nat.lt_or_gt_of_ne hji with h5 | h5
        · have := ht i j l1 l2 h5; rw [e1, e2] at this; exact this heq.symm
        · have := ht j i l2 l1 h5; rw [e1, e2] at this; exact this heq
      exact ⟨h1, h2, ob', by show (if e.1 = b then _ else _) = _; rw [if_neg hne]; exact h3, h4⟩, by
    refine List.pairwise_iff_getElem.2 fun p q hp hq hpq => ?_
    have ht := List.pairwise_iff_getElem.1 hMM.two
    have e1 : ∀ (p : Nat) (hp : p < (M.set i (b, k', F')).length), ((M.set i (b, k', F'))[p]).1 = (M[p]'(by simpa using hp)).1 := fun p hp => by
      rw [List.getElem_set]
      split
      · rename_i hh; subst hh
        obtain ⟨l1, e1⟩ := List.getElem?_eq_some_iff.1 hM
        rw [e1]
      · rfl
    show ((M.set i (b, k', F'))[p]).1 ≠ ((M.set i (b, k', F'))[q]).1
    rw [e1, e1]
    exact ht p q (by simpa using hp) (by simpa using hq) hpq⟩ hr'
  unfold Oper.wp
  rcases r1 with r1 | ⟨r1, rfl⟩
  · rw [r1]; exact hfin
  · rw [r1]; exact hfin
theorem XRes_seen {i b k : Nat} {F : MC} {x : AV} (hM : M[i]? = some (b, k, F)) (hw : wantedS fr o = some true)
    (hrun : ∀ (a : Act) (w : World) G, Rst G ⟨fr, H⟩ a w → IMap w b k F → ∃ v, (execOp a.eval o).run P w = .ok (.value v) w ∧ RA H.length G x v)
    (h : XRes P m Q (l, ⟨putL fr o.dst x, H, M⟩)) : XRes P m Q (o :: l, ⟨fr, H, M⟩) := fun n hn G0 G a w hm hl hMM hr => by
  unfold wpList
  rw [if_pos (hr.wanted (ops := idB n) (o := o) (b := true) (by rw [wantedS_ok hn]; exact hw))]
  refine .inl ?_
  obtain ⟨c1, c2, c3, ob0, c4⟩ := hMM.at hr.inv hM
  obtain ⟨v, r1, r2⟩ := hrun a w G hr c3
  have hfin := h n (by show (putL _ _ _).length ≤ n; rw [putL_len]; exact hn) G0 G _ w hm hl hMM (hr.put (Gh.le.refl _ _) (Nat.le_refl _) hr.inv r2 o.dst)
  unfold Oper.wp
  rw [r1]; exact hfin
end
section
variable {m : Nat} {Q : Exit → XS → Prop} {fr : List AV} {H : AHeap} {M : MS} {l : List Oper} {t e : TypeId} {d : Option Tmp} {ty : TypeId} {pos : String} {after : Array Edge} {g : Option (Nat × Bool)}
theorem ev_lit {fr : List AV} {H : AHeap} {G : Gh} {a : Act} {w : World} (hr : Rst G ⟨fr, H⟩ a w) {x : Operand} {v : Value} (h : AS.ev ⟨fr, H⟩ x = lt v) : a.eval x = v := by
  have := hr.ev x; rw [h] at this; exact this.lit_inv
set_option maxRecDepth 100000 in
theorem XRes_mput {mo x v : Operand} (hw : wantedS fr ⟨d, .mapUpdate t mo x v, ty, pos, after, g⟩ = some true) (ht : Tryz.prog.underlying t = some (.map 3 e)) {i b n : Nat} {F : MC} (hm : AS.ev ⟨fr, H⟩ mo = lt (.map (some b))) (hM : M[i]? = some (b, n, F))
    {k : Int} (hx : AS.ev ⟨fr, H⟩ x = lt (.int .i64 k)) (k1 : -9223372036854775808 ≤ k ∧ k ≤ 9223372036854775807) {u : Value} (hv : AS.ev ⟨fr, H⟩ v = lt u) (hu : (mapR u).isSome = true) (hn : n < maxLen)
    (h : XRes Tryz.prog m Q (l, ⟨putL fr d uD, H, M.set i (b, n + 1, upd F k u)⟩)) : XRes Tryz.prog m Q (⟨d, .mapUpdate t mo x v, ty, pos, after, g⟩ :: l, ⟨fr, H, M⟩) :=
  XRes_turn (v := undef) (x := uD) (fun G => .iv _ _ (.lit _)) hM hw (fun a w G hr hown => by
    obtain ⟨w', hrun, h1, h2⟩ := hown.store t e ht hn k1.1 k1.2 hu
    exact ⟨w', .inr ⟨by simp [execOp, ev_lit hr hm, ev_lit hr hx, ev_lit hr hv, hrun, Result.andThen], rfl⟩, h1, h2⟩) h
set_option maxRecDepth 100000 in
theorem XRes_mputA {mo x v : Operand} (hw : wantedS fr ⟨d, .mapUpdate t mo x v, ty, pos, after, g⟩ = some true) (ht : Tryz.prog.underlying t = some (.map 3 e)) {i b n : Nat} {F : MC} (hm : AS.ev ⟨fr, H⟩ mo = lt (.map (some b))) (hM : M[i]? = some (b, n, F))
    {k : Int} (hx : AS.ev ⟨fr, H⟩ x = lt (.int .i64 k)) (k1 : -9223372036854775808 ≤ k ∧ k ≤ 9223372036854775807) {us : List Value} (hv : AS.ev ⟨fr, H⟩ v = .agg (us.map lt)) (hu : (mapR (.agg us.toArray)).isSome = true) (hn : n < maxLen)
    (h : XRes Tryz.prog m Q (l, ⟨putL fr d uD, H, M.set i (b, n + 1, upd F k (.agg us.toArray))⟩)) : XRes Tryz.prog m Q (⟨d, .mapUpdate t mo x v, ty, pos, after, g⟩ :: l, ⟨fr, H, M⟩) :=
  XRes_turn (v := undef) (x := uD) (fun G => .iv _ _ (.lit _)) hM hw (fun a w G hr hown => by
    obtain ⟨w', hrun, h1, h2⟩ := hown.store t e ht hn k1.1 k1.2 hu
    have hve := hr.ev v
    rw [hv] at hve
    have hva : a.eval v = .agg us.toArray := by
      generalize a.eval v = va at hve
      cases hve with
      | agg _ vs h1 h2 h3 =>
        congr 2
        refine List.ext_getElem? fun j => ?_
        rcases Nat.lt_or_ge j vs.length with hj | hj
        · have hj' : j < us.length := by rw [List.length_map] at h1; omega
          have := (h2 j (lt us[j]) vs[j] (by rw [List.getElem?_map, List.getElem?_eq_getElem hj']; rfl) (List.getElem?_eq_getElem hj)).lit_inv
          rw [List.getElem?_eq_getElem hj, List.getElem?_eq_getElem hj', this]
        · rw [List.getElem?_eq_none hj, List.getElem?_eq_none (by rw [List.length_map] at h1; omega)]
    exact ⟨w', .inr ⟨by simp [execOp, ev_lit hr hm, ev_lit hr hx, hva, hrun, Result.andThen], rfl⟩, h1, h2⟩) h
set_option maxRecDepth 100000 in
theorem XRes_mlook {mo x : Operand} {z : Value} (hw : wantedS fr ⟨d, .lookup t mo x true, ty, pos, after, g⟩ = some true) (ht : Tryz.prog.underlying t = some (.map 3 e)) (hz : ∀ w, (zeroValue e).run Tryz.prog w = .ok z w) (hzR : (mapR z).isSome = true) {i b n : Nat} {F : MC} (hm : AS.ev ⟨fr, H⟩ mo = lt (.map (some b))) (hM : M[i]? = some (b, n, F))
    {k : Int} (hx : AS.ev ⟨fr, H⟩ x = lt (.int .i64 k)) (k1 : -9223372036854775808 ≤ k ∧ k ≤ 9223372036854775807)
    (h : XRes Tryz.prog m Q (l, ⟨putL fr d (.tup [lt ((F k).getD z), lt (.bool (F k).isSome)]), H, M⟩)) : XRes Tryz.prog m Q (⟨d, .lookup t mo x true, ty, pos, after, g⟩ :: l, ⟨fr, H, M⟩) :=
  XRes_seen hM hw (fun a w G hr hown => ⟨_, by simp [execOp, ev_lit hr hm, ev_lit hr hx, hown.look ht (hz w) hzR k1.1 k1.2, Result.andThen], .tup [_, _] [_, _] rfl (RL.cons (.iv _ _ (.lit _)) (RL.cons (.iv _ _ (.lit _)) (RL.nil _ _))).2⟩) h
end
end Go.Proofs.YtcjnikkmjhagmaaGreatDoor
namespace Go.Proofs.YtcjnikkmjhagmaaGreatDoor
open Go.RowKit
set_option linter.unusedVariables false
set_option linter.unusedSimpArgs false
section
variable {P : Program} {tt : TT} {m : Nat} {Q : Exit → XS → Prop} {fr : List AV} {H : AHeap} {M : MS} {l : List Oper} {o : Oper} {n0 : Nat} {us : List Nat} {H0 Hc : AHeap} {K : List AV → AHeap → Prop} {al : List Kd}
theorem ADR_id1 {p : List Oper × List Kd × List AV} (h : ADR P n0 us H0 K Hc p) : ADR P n0 us H0 K Hc p := h
theorem ADR_free1 (hT : TyOK P tt) (hr : freeOp o.op = true) (hw : wantedS fr o = some true) (h : match aop tt ⟨fr, H0⟩ o with | some (x, _) => ADR P n0 us H0 K Hc (l, al, putL fr o.dst x) | none => False) : ADR P n0 us H0 K Hc (o :: l, .free :: al, fr) := fun n hn => by
  cases hx : aop tt ⟨fr, H0⟩ o with
  | none => rw [hx] at h; exact h.elim
  | some p =>
    obtain ⟨x, H'⟩ := p
    rw [hx] at h
    have := aop_ro (ro_of_free hr) hx
    subst this
    exact ⟨x, Hc, none, .free x (wanted_iff hn hw) fun H => does_aop hT (aop_free hr hx), h n (by show (putL _ _ _).length ≤ n; rw [putL_len]; exact hn)⟩
theorem ADR_read1 (hT : TyOK P tt) (hr : roOp o.op = true) (hw : wantedS fr o = some true) (h : match aop tt ⟨fr, H0⟩ o with | some (x, _) => ADR P n0 us H0 K Hc (l, al, putL fr o.dst x) | none => False) : ADR P n0 us H0 K Hc (o :: l, .read :: al, fr) := fun n hn => by
  cases hx : aop tt ⟨fr, H0⟩ o with
  | none => rw [hx] at h; exact h.elim
  | some p =>
    obtain ⟨x, H'⟩ := p
    rw [hx] at h
    have := aop_ro hr hx
    subst this
    exact ⟨x, Hc, none, .pure x (wanted_iff hn hw) fun H hs => does_aop hT (aop_mono hs hr hx), h n (by show (putL _ _ _).length ≤ n; rw [putL_len]; exact hn)⟩
theorem ADR_chg1 (hT : TyOK P tt) (hw : wantedS fr o = some true) (h : match aop tt ⟨fr, Hc⟩ o with | some (x, H') => Hc.length ≤ H'.length ∧ ADR P n0 us H0 K H' (l, al, putL fr o.dst x) | none => False) : ADR P n0 us H0 K Hc (o :: l, .chg :: al, fr) := fun n hn => by
  cases hx : aop tt ⟨fr, Hc⟩ o with
  | none => rw [hx] at h; exact h.elim
  | some p =>
    obtain ⟨x, H'⟩ := p
    rw [hx] at h
    exact ⟨x, H', none, .chg x H' (wanted_iff hn hw) h.1 (does_aop hT hx), h.2 n (by show (putL _ _ _).length ≤ n; rw [putL_len]; exact hn)⟩
theorem ADR_skip1 {k : Kd} (hk : k.al = false) (hw : wantedS fr o = some false) (h : ADR P n0 us H0 K Hc (l, al, putL fr o.dst uD)) : ADR P n0 us H0 K Hc (o :: l, k :: al, fr) := fun n hn =>
  ⟨uD, Hc, none, .skip _ hk (wanted_iff hn hw), h n (by show (putL _ _ _).length ≤ n; rw [putL_len]; exact hn)⟩
theorem ADR_grow1 (hT : TyOK P tt) {x : AV} {new : AHeap} (hw : wantedS fr o = some true) (ha : ∀ H : AHeap, H.length = Hc.length → aop tt ⟨fr, H⟩ o = some (x, H ++ new)) (h : ADR P n0 us H0 K (Hc ++ new) (l, al, putL fr o.dst x)) : ADR P n0 us H0 K Hc (o :: l, .grow :: al, fr) := fun n hn =>
  ⟨x, Hc ++ new, none, .grow x new (wanted_iff hn hw) fun H _ hl => does_aop hT (ha H hl), h n (by show (putL _ _ _).length ≤ n; rw [putL_len]; exact hn)⟩
theorem ADR_alloc1 (hT : TyOK P tt) {e : TypeId} {d : Option Tmp} {ty : TypeId} {pos : String} {after : Array Edge} {g : Option (Nat × Bool)} (hw : wantedS fr ⟨d, .alloc e, ty, pos, after, g⟩ = some true)
    (h : match tt e with | some r => (r.zero.map lt).all AV.one = true ∧ ADR P n0 us H0 K (Hc ++ [some ⟨e, r.zero.map lt⟩]) (l, al, putL fr d (.optr Hc.length 0)) | none => False) : ADR P n0 us H0 K Hc (⟨d, .alloc e, ty, pos, after, g⟩ :: l, .grow :: al, fr) := by
  cases hr : tt e with
  | none => rw [hr] at h; exact h.elim
  | some r =>
    rw [hr] at h
    exact ADR_grow1 hT hw (fun H hl => by simp only [aop, hr, abox, if_pos h.1, hl]) h.2
def effOp : Op → Bool
  | .alloc _ | .box _ _ | .buildSlice _ _ _ | .store _ _ _ | .makeSlice _ _ _ | .mapUpdate _ _ _ _ | .makeMap _ _ | .lookup _ _ _ _ => true
  | .call c => match c.callee with
    | .builtin .append | .builtin .delete => true
    | _ => false
  | _ => false
def preN : List Oper → Nat
  | [] => 0
  | o :: l => if effOp o.op = true then 0 else preN l + 1
theorem AX_drawS (hT : TyOK P tt) (hmx : P.follows .mixedOrders = true) {id : Nat} {ops : List Oper} (al : List Kd) (N : Nat) (k : Nat) (hord : ordOK ops.toArray N al = true)
    (h : ∀ (K : List AV → AHeap → Prop), (∀ F H', XRes P m Q ((ops.drop N).map (strip (dsts ops)), ⟨F, H', M⟩) → K F H') → ADR P H.length [] (extH k H) K (extH k H) ((ops.take N).map (strip (dsts ops)), al, fr)) : AX P m (.region id ops.toArray true) Q ⟨fr, H, M⟩ := fun G0 G a w hm hl0 hM hr => by
  have ord := ord_of hord
  have hN : N ≤ ops.length := by simpa using ord.le_size
  obtain ⟨X, F, Hh, Lf, HF, e1, e2, e3, e4, e5, e6, e7, e8⟩ := (ADS_strip (h (fun F H' => XRes P m Q ((ops.drop N).map (strip (dsts ops)), ⟨F, H', M⟩)) fun _ _ h => h)).fns (Nat.le_refl _)
  have hl : (ops.take N).length = N := by simp [hN]
  rw [hl] at e3 e5 e7
  have st : Steps1 P ops.toArray N _ X F Hh Lf := ⟨fun j o hj ho => by
    have : (ops.take N)[j]? = some o := by rw [List.getElem?_take_of_lt hj]; simpa using ho
    have := e4 j o this
    rw [e2]; exact this⟩
  have hlen := extH_len H k
  have hout : ∀ q, H.length ≤ q → ¬ G.dom q := fun q hq hd => by have := hr.inv.dom q hd; simp at this; omega
  refine wp_region_any hmx ?_
  have key := any_mainR (G0 := G) (n0 := H.length) ord st (R := PostX m G0 Q) (by rw [e2]; exact e5) (HF := HF) e7 (fun G' a' w' hle hn0 hr' => by
    have h3 := e3 (max (F N).length (topD (dsts ops))) (Nat.le_max_left _ _) G0 G' a' w' (by show m ≤ HF.length; have : m ≤ H.length := hm; omega) (hl0.trans (hle.leb hm)) (hM.leb (hle.leb hm)) hr'
    have h4 : wpList P (idB (max (F N).length (topD (dsts ops)))) (PostX m G0 Q) ((ops.drop N).map (strip (dsts ops))) a' w' := h3
    rw [wpList_strip (Nat.le_max_right _ _)] at h4
    simpa using h4) ops.toArray.size (Array.replicate ops.toArray.size false) a { w with drawn := w.drawn + 1 } G 0 (extH k H) ?_ (fun j q obj h1 h2 _ => hout q (e5.none j q obj h1 h2).2) ?_ ?_ ?_ hr.defers ?_ (Nat.zero_le _) ?_ ?_ (Gh.le.refl _ _) ?_
  · exact key
  · rw [e2]
    refine ⟨rfl, fun _ _ => rfl, fun j q obj h1 h2 => ?_⟩
    rw [(e5.none j q obj h1 h2).1]; simp [Array.getD]
  · simp [left]
  · refine ⟨by simp, fun j hj => ?_⟩
    simp [Array.getD] at hj
  · intro j hj; simp [Array.getD]
  · refine ⟨by rw [e1]; have := hr.fr.1; simp at this; exact this.symm, fun t j ht hj hl => ?_, fun t ht _ => ?_⟩
    · simp [Array.getD] at hl
    · rw [e1, e2, arr_getD]; exact (hr.fr.getD t).mono (Gh.le.refl 0 G) (by show H.length ≤ (extH k H).length; omega)
  · intro j hj ha
    simp [Array.getD]
  · exact (hr.inv.extends k).drew
  · rw [e2]; omega
theorem AX_drawG1 (hT : TyOK P tt) (hm : P.follows .mixedOrders = true) {id : Nat} {ops : List Oper} (hp : (preN ops == ops.length) = true) (hord : ordOK ops.toArray ops.length (alG ops) = true)
    (h : ∀ (K : List AV → AHeap → Prop), (∀ F H', Q .normal ⟨F, H', M⟩ → K F H') → ADF P H K (ops.map (strip (dsts ops)), fr)) : AX P m (.region id ops.toArray true) Q ⟨fr, H, M⟩ := AX_drawG hT hm hord h
theorem AX_drawT (hT : TyOK P tt) (hmx : P.follows .mixedOrders = true) {id : Nat} {ops : List Oper} (hord : ordOK ops.toArray (preN ops) (alG (ops.take (preN ops))) = true)
    (h : ∀ (K : List AV → AHeap → Prop), (∀ F H', XRes P m Q ((ops.drop (preN ops)).map (strip (dsts ops)), ⟨F, H', M⟩) → K F H') → ADF P H K ((ops.take (preN ops)).map (strip (dsts ops)), fr)) : AX P m (.region id ops.toArray true) Q ⟨fr, H, M⟩ :=
  AX_drawS hT hmx (alG (ops.take (preN ops))) (preN ops) 0 hord fun K hK => by
    have e : alG (ops.take (preN ops)) = alG ((ops.take (preN ops)).map (strip (dsts ops))) := by unfold alG; rw [List.map_map]; rfl
    rw [e]
    exact h K hK
theorem AX_drawA (hT : TyOK P tt) (hmx : P.follows .mixedOrders = true) {id : Nat} {ops : List Oper} (hord : ordOK ops.toArray ops.length (alD ops) = true)
    (h : ∀ (K : List AV → AHeap → Prop), (∀ F H', Q .normal ⟨F, H', M⟩ → K F H') → ADR P H.length [] H K H (ops.map (strip (dsts ops)), alD ops, fr)) : AX P m (.region id ops.toArray true) Q ⟨fr, H, M⟩ :=
  AX_drawS hT hmx (alD ops) ops.length 0 hord fun K hK => by
    rw [List.take_length]
    exact h K fun F H' hq => hK F H' (by rw [List.drop_length]; exact XRes_nil hq)
end
end Go.Proofs.YtcjnikkmjhagmaaGreatDoor
namespace Go.Proofs.YtcjnikkmjhagmaaGreatDoor
open Go.RowKit
set_option linter.unusedVariables false
set_option linter.unusedSimpArgs false
inductive Op3 (P : Program) (m : Nat) (G0 : Gh) (ops : Array Oper) (H : AHeap) (o : Oper) (fr : List AV) (M M' : MS) : AV → Bool → Prop
  | skip : M' = M → AS.wanted ⟨fr, H⟩ ops o = some false → Op3 P m G0 ops H o fr M M' uD false
  | does (x : AV) : M' = M → AS.wanted ⟨fr, H⟩ ops o = some true → Does P ops o fr H x H → Op3 P m G0 ops H o fr M M' x false
  | turn (x : AV) : AS.wanted ⟨fr, H⟩ ops o = some true → (∀ (Q : Exit → Act → World → Prop) (G : Gh) (a : Act) (w : World) (K : Act → World → Prop), Gh.leb m G0 G → MOK G0.kp G M → Inv G H w → Looks ops o H.length G fr a →
      (∀ kp' v w', Gh.leb m G0 { G with kp := kp' } → MOK G0.kp { G with kp := kp' } M' → Inv { G with kp := kp' } H w' → RA H.length G x v → K (a.put o.dst v) w') → o.wp P a w K Q) → Op3 P m G0 ops H o fr M M' x true
structure Steps3 (P : Program) (m : Nat) (G0 : Gh) (ops : Array Oper) (H : AHeap) (al : List Kd) (X : Nat → AV) (F : Nat → List AV) (Mk : Nat → MS) : Prop where
  ok : ∀ k o, ops[k]? = some o → Op3 P m G0 ops H o (F k) (Mk k) (Mk (k + 1)) (X k) (al.getD k .free).al ∧ F (k + 1) = putL (F k) o.dst (X k)
section
variable {P : Program} {m : Nat} {G0 : Gh} {ops : Array Oper} {H : AHeap} {al : List Kd} {X : Nat → AV} {F : Nat → List AV} {Mk : Nat → MS}
theorem Steps3.len (h : Steps3 P m G0 ops H al X F Mk) : ∀ k, k ≤ ops.size → (F k).length = (F 0).length
  | 0, _ => rfl
  | k + 1, hk => by
    obtain ⟨_, h2⟩ := h.ok k _ (Array.getElem?_eq_getElem (by omega))
    rw [h2, ← h.len k (by omega)]
    unfold putL; split <;> simp
theorem Steps3.same (h : Steps3 P m G0 ops H al X F Mk) {k : Nat} (hk : k < ops.size) (ha : (al.getD k .free).al = false) : Mk (k + 1) = Mk k := by
  obtain ⟨h1, _⟩ := h.ok k _ (Array.getElem?_eq_getElem hk)
  rw [ha] at h1
  generalize X k = x at h1
  cases h1 with
  | skip e => exact e
  | does _ e => exact e
theorem Steps3.flat (h : Steps3 P m G0 ops H al X F Mk) {c : Nat} : ∀ d, c + d ≤ ops.size → (∀ i, c ≤ i → i < c + d → (al.getD i .free).al = false) → Mk (c + d) = Mk c
  | 0, _, _ => rfl
  | d + 1, hd, ha => by
    rw [← h.flat d (by omega) fun i h1 h2 => ha i h1 (by omega)]
    exact h.same (show c + d < ops.size by omega) (ha (c + d) (by omega) (by omega))
theorem Steps3.slot (h : Steps3 P m G0 ops H al X F Mk) {t : Nat} (ht : t < (F 0).length) : ∀ k, k ≤ ops.size →
    (∀ i, i < k → dstAt ops i = some t → (∀ q, i < q → q < k → dstAt ops q ≠ some t) → (F k).getD t uD = X i) ∧ ((∀ i, i < k → dstAt ops i ≠ some t) → (F k).getD t uD = (F 0).getD t uD)
  | 0, _ => ⟨fun i hi => absurd hi (by omega), fun _ => rfl⟩
  | k + 1, hk => by
    have hlt : k < ops.size := by omega
    obtain ⟨ih1, ih2⟩ := h.slot ht k (by omega)
    have hl := h.len k (by omega)
    obtain ⟨_, h2⟩ := h.ok k _ (Array.getElem?_eq_getElem hlt)
    have hd : dstAt ops k = (ops[k]).dst := by unfold dstAt; rw [Array.getElem?_eq_getElem hlt]; rfl
    rw [h2]
    have key : (putL (F k) (ops[k]).dst (X k)).getD t uD = if dstAt ops k = some t then X k else (F k).getD t uD := by
      rw [hd]
      unfold putL
      split
      · rename_i d he
        rw [he]
        by_cases e : d = t
        · subst e
          rw [if_pos rfl, List.getD_eq_getElem?_getD, List.getElem?_set_self (by rw [hl]; exact ht)]; rfl
        · rw [if_neg (by simpa using e), List.getD_eq_getElem?_getD, List.getElem?_set_ne e, List.getD_eq_getElem?_getD]
      · rename_i he; rw [he, if_neg (by simp)]
    rw [key]
    constructor
    · intro i hi he hno
      split
      · rename_i hk2
        rcases Nat.lt_or_ge i k with h3 | h3
        · exact absurd hk2 (hno k h3 (by omega))
        · have : i = k := by omega
          subst this; rfl
      · rename_i hk2
        have hik : i < k := by
          rcases Nat.lt_or_ge i k with h3 | h3
          · exact h3
          · have : i = k := by omega
            subst this; exact absurd he hk2
        exact ih1 i hik he fun q h3 h4 => hno q h3 (by omega)
    · intro hno
      rw [if_neg (hno k (by omega))]
      exact ih2 fun i hi => hno i (by omega)
theorem Sl.at3 (h : Steps3 P m G0 ops H al X F Mk) {n : Nat} {G : Gh} {listed : Array Bool} {a : Act} (hs : Sl ops ops.size X F n G listed a) {k : Nat} (hk : k ≤ ops.size) (t : Nat) (h1 : ∀ i, i < k → dstAt ops i = some t → listed.getD i false = true) (h2 : ∀ i, k ≤ i → i < ops.size → dstAt ops i = some t → listed.getD i false = false) :
    RA n G ((F k).getD t uD) (a.tmps.getD t undef) := by
  by_cases ht : t < (F 0).length
  · obtain ⟨s1, s2⟩ := h.slot ht k hk
    by_cases hex : ∃ i, i < k ∧ dstAt ops i = some t
    · obtain ⟨i, h3, h4, h5⟩ := last_such _ k hex
      rw [s1 i h3 h4 fun q h6 h7 => h5 q h6 h7]
      refine hs.wr t i ht (by omega) (h1 i h3 h4) h4 fun q h6 h7 h8 h9 => ?_
      rcases Nat.lt_or_ge q k with h10 | h10
      · exact h5 q h6 h10 h9
      · rw [h2 q h10 h7 h9] at h8; cases h8
    · have hno : ∀ i, i < k → dstAt ops i ≠ some t := fun i hi e => hex ⟨i, hi, e⟩
      rw [s2 hno]
      refine hs.un t ht fun j hj hl e => ?_
      rcases Nat.lt_or_ge j k with h10 | h10
      · exact hno j h10 e
      · rw [h2 j h10 hj e] at hl; cases hl
  · have e1 : (F k).getD t uD = uD := by rw [List.getD_eq_getElem?_getD, List.getElem?_eq_none (by rw [h.len k hk]; omega)]; rfl
    have e2 : a.tmps.getD t undef = undef := by
      have := hs.size
      simp [Array.getD, show ¬ t < a.tmps.size by omega]
    rw [e1, e2]; exact .iv _ _ (.lit _)
theorem Sl.kp {N n : Nat} {G : Gh} {listed : Array Bool} {a : Act} (h : Sl ops N X F n G listed a) (kp' : Nat → Option Obj) : Sl ops N X F n { G with kp := kp' } listed a :=
  ⟨h.size, fun t j h1 h2 h3 h4 h5 => (h.wr t j h1 h2 h3 h4 h5).kpany, fun t h1 h2 => (h.un t h1 h2).kpany⟩
theorem any3 (ord : Ord ops ops.size al) (h : Steps3 P m G0 ops H al X F Mk) (hm : m ≤ H.length) {R : Exit → Act → World → Prop} (fin : ∀ G a w, Gh.leb m G0 G → MOK G0.kp G (Mk ops.size) → Rst G ⟨F ops.size, H⟩ a w → R .normal a w) : ∀ (fuel : Nat) (listed : Array Bool) (a : Act) (w : World) (G : Gh) (c : Nat),
    fuel = left listed → Closed ops listed → a.defers = [] → Sl ops ops.size X F H.length G listed a → c ≤ ops.size → (∀ j, j < ops.size → (al.getD j .free).al = true → (listed.getD j false = true ↔ j < c)) → Inv G H w → Gh.leb m G0 G → MOK G0.kp G (Mk c) →
    wpAny P .any ops R fuel listed a w := by
  intro fuel
  induction fuel with
  | zero =>
    intro listed a w G c hf hc hd hs hcN hal hi hl hM
    have hall : ∀ j, j < ops.size → listed.getD j false = true := fun j hj => left_zero hf.symm (by rw [hc.1]; exact hj)
    have hready : Region.ready .any ops listed = [] := by
      cases hr : Region.ready .any ops listed with
      | nil => rfl
      | cons j js =>
        obtain ⟨h1, h2, _⟩ := (ready_spec hc.1).1 (hr ▸ List.mem_cons_self : j ∈ Region.ready .any ops listed)
        rw [hall j h1] at h2; cases h2
    refine ⟨hready, ?_⟩
    have hflat : Mk ops.size = Mk c := by
      have := h.flat (c := c) (ops.size - c) (by omega) (fun i h1 h2 => by
        cases hb : (al.getD i .free).al with
        | false => rfl
        | true => exact absurd ((hal i (by omega) hb).1 (hall i (by omega))) (by omega))
      rwa [show c + (ops.size - c) = ops.size by omega] at this
    refine fin G a w hl (by rw [hflat]; exact hM) ⟨hd, ⟨by rw [h.len _ (Nat.le_refl _)]; simp [hs.size], fun i x v e1 e2 => ?_⟩, hi⟩
    have := hs.at3 h (Nat.le_refl _) i (fun q hq _ => hall q hq) (fun q h1 h2 => by omega)
    rw [List.getD_eq_getElem?_getD, e1] at this
    rw [Array.getElem?_toList] at e2
    have e3 : a.tmps.getD i undef = v := by obtain ⟨hlt, rfl⟩ := Array.getElem?_eq_some_iff.1 e2; simp [Array.getD, hlt]
    rw [e3] at this
    exact this
  | succ fuel ih =>
    intro listed a w G c hf hc hd hs hcN hal hi hl hM
    have hne : ∃ j, j < ops.size ∧ listed.getD j false = false := by
      apply Classical.byContradiction
      intro hno
      have hall : ∀ j, j < ops.size → listed.getD j false = true := fun j hj => by
        cases hb : listed.getD j false with
        | true => rfl
        | false => exact absurd ⟨j, hj, hb⟩ hno
      have : left listed = 0 := by
        unfold left
        rw [List.count_eq_zero]
        intro hmem
        obtain ⟨j, hj, e⟩ := List.mem_iff_getElem.1 hmem
        have hj' : j < listed.size := by simpa using hj
        have := hall j (by rw [← hc.1]; exact hj')
        simp [Array.getD, hj'] at this
        simp at e
        rw [this] at e; cases e
      omega
    refine ⟨fun hr => ?_, fun j hj => ?_⟩
    · exfalso
      obtain ⟨q, hq, hq2⟩ := hne
      have : ∀ d q, q = d → q < ops.size → listed.getD q false = false → False := by
        intro d
        induction d using Nat.strongRecOn with
        | _ d ihd =>
          intro q hqd hq hq2
          by_cases hdep : ∀ e ∈ dirs ops q, listed.getD e false = true
          · have := (ready_spec hc.1).2 ⟨hq, hq2, hdep⟩
            rw [hr] at this; cases this
          · rcases Classical.not_forall.1 hdep with ⟨e, he⟩
            obtain ⟨he1, he2⟩ := Classical.not_imp.1 he
            have := ord.low q e he1
            exact ihd e (by omega) e rfl (by omega) (by simpa using he2)
      exact this q q rfl hq hq2
    · obtain ⟨h1, h2, h3⟩ := (ready_spec hc.1).1 hj
      have hoj := Array.getElem?_eq_getElem h1
      obtain ⟨hok, hFs⟩ := h.ok j _ hoj
      have hdj : dstAt ops j = (ops[j]).dst := by unfold dstAt; rw [hoj]; rfl
      have big : ∀ i, j < i → i < ops.size → listed.getD i false = true → ∀ t, dstAt ops i = some t → (t ∈ (ops[j]).looksAt ops ∨ (ops[j]).dst = some t) → False := fun i h4 h5 h6 t h7 h8 => by
        have hoi := Array.getElem?_eq_getElem (show i < ops.size by omega)
        have hdi : (ops[i]'(by omega)).dst = some t := by unfold dstAt at h7; rw [hoi] at h7; exact h7
        have := (ord.names i j _ _ t h5 h1 hoi hoj hdi h8).2 h4
        have := Anc.listed (j := i) (i := j) hc (hc.2 i h6) this
        rw [h2] at this; cases this
      have hlooks : Looks ops (ops[j]) H.length G (F j) a := by
        refine ⟨by rw [h.len j (by omega), hs.size], fun t ht => ?_⟩
        refine hs.at3 h (by omega) t (fun i h4 h5 => ?_) (fun i h4 h5 h6 => ?_)
        · have hoi := Array.getElem?_eq_getElem (show i < ops.size by omega)
          have hdi : (ops[i]'(by omega)).dst = some t := by unfold dstAt at h5; rw [hoi] at h5; exact h5
          exact Anc.listed (j := j) (i := i) hc h3 ((ord.names i j _ _ t (by omega) h1 hoi hoj hdi (.inl ht)).1 h4)
        · rcases Nat.lt_or_ge j i with h7 | h7
          · cases hb : listed.getD i false with
            | false => rfl
            | true => exact (big i h7 h5 hb t h6 (.inl ht)).elim
          · have : i = j := by omega
            subst this; exact h2
      have hbig : ∀ i, j < i → i < ops.size → listed.getD i false = true → dstAt ops i ≠ dstAt ops j ∨ dstAt ops j = none := fun i h4 h5 h6 => by
        cases hd : dstAt ops j with
        | none => exact .inr rfl
        | some t => exact .inl fun e => big i h4 h5 h6 t e (.inr (by rw [← hdj]; exact hd))
      have hleft : fuel = left (listed.setIfInBounds j true) := by
        have := left_set (j := j) (by rw [hc.1]; exact h1) h2; omega
      have hjs : j < listed.size := by rw [hc.1]; exact h1
      have go : ∀ (G' : Gh) (v : Value) (w' : World) (c' : Nat), (∃ lo kp', Gh.le lo { G with kp := kp' } G') → c' ≤ ops.size → (∀ q, q < ops.size → (al.getD q .free).al = true → ((listed.setIfInBounds j true).getD q false = true ↔ q < c')) → Inv G' H w' → Gh.leb m G0 G' → MOK G0.kp G' (Mk c') → RA H.length G' (X j) v →
          wpAny P .any ops R fuel (listed.setIfInBounds j true) (a.put (ops[j]).dst v) w' := fun G' v w' c' ⟨lo, kp', k1⟩ k2 k3 k4 k5 k6 k7 => by
        refine ih _ _ w' G' c' hleft (hc.set hj) (by unfold Act.put; split <;> exact hd) ?_ k2 k3 k4 k5 k6
        rw [← hdj]
        exact (hs.kp kp').put k1 (Nat.le_refl _) h1 hjs k7 hbig
      have same : (al.getD j .free).al = false → ∀ q, q < ops.size → (al.getD q .free).al = true → ((listed.setIfInBounds j true).getD q false = true ↔ q < c) := fun hb q hq ha => by
        rw [getD_set _ _ _ hjs, if_neg (fun e => by subst e; rw [hb] at ha; cases ha)]
        exact hal q hq ha
      unfold wpOp
      rw [hoj]
      simp only
      generalize hX : X j = x at hok go
      generalize hkd : (al.getD j .free).al = kd at hok same
      cases hok with
      | skip _ hw =>
        rw [hlooks.wanted hw]
        exact go G undef w c ⟨0, G.kp, Gh.le.refl _ _⟩ hcN (same rfl) hi hl hM (.iv _ _ (.lit _))
      | does _ _ hw hdoes =>
        rw [if_pos (hlooks.wanted hw)]
        refine .inl ?_
        exact hdoes _ G a w _ hi hlooks fun G' v w' k1 k2 k3 k4 => go G' v w' c ⟨_, G.kp, k1⟩ hcN (same rfl) k3 (hl.trans (k1.leb hm)) (hM.leb (k1.leb hm)) k4
      | turn _ hw hdoes =>
        rw [if_pos (hlooks.wanted hw)]
        refine .inl ?_
        have hcj : ∀ i, i < ops.size → (al.getD i .free).al = true → (listed.getD i false = true ↔ i < j) := fun i h4 h5 => by
          constructor
          · intro h6
            rcases Nat.lt_or_ge i j with h7 | h7
            · exact h7
            · exfalso
              rcases Nat.lt_or_ge j i with h8 | h8
              · have := ord.grows j i h8 h4 h5 hkd
                have := Anc.listed (j := i) (i := j) hc (hc.2 i h6) this
                rw [h2] at this; cases this
              · have : i = j := by omega
                subst this; rw [h2] at h6; cases h6
          · intro h6
            exact Anc.listed (j := j) (i := i) hc h3 (ord.grows i j h6 h1 hkd h5)
        have hMj : Mk j = Mk c := by
          rcases Nat.le_total c j with h4 | h4
          · have := h.flat (c := c) (j - c) (by omega) (fun i h5 h6 => by
              cases hb : (al.getD i .free).al with
              | false => rfl
              | true => have e1 := (hcj i (by omega) hb).2 (by omega); have e2 := (hal i (by omega) hb).1 e1; omega)
            rwa [show c + (j - c) = j by omega] at this
          · have := h.flat (c := j) (c - j) (by omega) (fun i h5 h6 => by
              cases hb : (al.getD i .free).al with
              | false => rfl
              | true => have e1 := (hal i (by omega) hb).2 (by omega); have e2 := (hcj i (by omega) hb).1 e1; omega)
            rw [show j + (c - j) = c by omega] at this
            exact this.symm
        refine hdoes _ G a w _ hl (by rw [hMj]; exact hM) hi hlooks fun kp' v w' k1 k2 k3 k4 => go { G with kp := kp' } v w' (j + 1) ⟨0, kp', Gh.le.refl _ _⟩ (by omega) (fun q hq ha => ?_) k3 k1 k2 k4.kpany
        rw [getD_set _ _ _ hjs]
        split
        · rename_i e; subst e; exact ⟨fun _ => by omega, fun _ => rfl⟩
        · rename_i e
          rw [hcj q hq ha]
          omega
end
end Go.Proofs.YtcjnikkmjhagmaaGreatDoor
