import Derived.Test.YtmjkhjebeebahaaMgAI
namespace Go.Proofs.Ytmjkhjebeebahaa
open Go.RowKit
set_option linter.unusedVariables false
set_option linter.unusedSimpArgs false
section
variable {P : Program} {tt : TT} {ops : Array Oper}

theorem RA.ids {n m : Nat} {G : Gh} (hd : ∀ o, G.dom o → o < n) {x : AV} {v : Value} (h : RA m G x v) : Ids n x := by
  induction h with
  | iv x v h => exact .iv x
  | agg xs vs h1 h2 h3 ih =>
    refine .agg xs fun i x e => ?_
    obtain ⟨v, hv⟩ := at_of_len h1 e
    exact ih i x v e hv
  | tup xs vs h1 h2 ih =>
    refine .tup xs fun i x e => ?_
    obtain ⟨v, hv⟩ := at_of_len h1 e
    exact ih i x v e hv
  | osl o off len sz b a cap h1 h2 h3 h4 h5 h6 => exact .osl o off len sz (hd o h1)
  | onil o off sz h1 => exact .osl o off 0 sz (hd o h1)
  | optr o off h1 => exact .optr o off (hd o h1)
  | fn f first caps vs us h1 h2 h3 h4 ih1 ih2 =>
    refine .fn f first caps (fun i x e => ?_) fun i x e => ?_
    · obtain ⟨v, hv⟩ := at_of_len h1 e
      exact ih1 i x v e hv
    · obtain ⟨v, hv⟩ := at_of_len h2 e
      exact ih2 i x v e hv
/-- A used-up object at the list's end is left out. -/
theorem Inv.unlast {G G1 : Gh} {H : AHeap} {w w' : World} (hi : Inv G H w) (h : Inv G1 (H ++ [none]) w') : Inv { G1 with dom := fun o => o < H.length ∧ G1.dom o } H w' := by
  have old : ∀ o x, H[o]? = some (some x) → (H ++ [none])[o]? = some (some x) := fun o x e => by rw [List.getElem?_append_left (List.getElem?_eq_some_iff.1 e).1]; exact e
  refine ⟨h.os, h.tape, h.output, h.fz, h.kp, fun o ho => ho.1, fun o x e => ⟨(List.getElem?_eq_some_iff.1 e).1, h.live o x (old o x e)⟩, fun o x e => ?_, fun o o' x x' e e' => h.inj o o' x x' (old o x e) (old o' x' e')⟩
  refine (h.obj o x (old o x e)).imp id fun ⟨k0, cs, k1, k2, k3, k4, k5, k6⟩ => ⟨k0, cs, k1, k2, ⟨k3.1, fun i z u f f' => ?_⟩, k4, k5, k6⟩
  refine (k3.2 i z u f f').undom (k := H.length) (fun o ho hd => ⟨ho, hd⟩) ?_
  rcases hi.obj o x e with ⟨q, _⟩ | ⟨_, cs0, m1, m2, m3, m4, m5, m6⟩
  · rw [q] at f; simp at f
  · obtain ⟨v, hv, hr⟩ := m3.at f
    exact hr.ids fun o ho => hi.dom o ho
theorem set_last (H : AHeap) (x : Option AObj) : setN [H.length] (H ++ [x]) = H ++ [none] := by
  show (H ++ [x]).set H.length none = _
  rw [List.set_append_right _ _ (Nat.le_refl _), Nat.sub_self]; rfl
theorem lit_step {G G' : Gh} {H : AHeap} {w w' : World} {x : AV} {v : Value} {obj : AObj} {y : IV} (hi : Inv G H w) (k1 : Gh.le H.length G G') (k3 : Inv G' (H ++ [some obj]) w') (k4 : RA (H ++ [some obj]).length G' x v) (hs : SnapC (onlyH [H.length] (H ++ [some obj])) x y) :
    ∃ G2, Gh.le H.length G G2 ∧ Inv G2 H w' ∧ RA H.length G2 (.iv y) v := by
  obtain ⟨fz, f1, f2, f3, f4⟩ := k3.freeze [H.length]
  rw [set_last] at f3
  have hv := f4 x (.iv y) v (.iv _ _ hs) k4
  refine ⟨{ G' with fz := fz, dom := fun o => o < H.length ∧ G'.dom o }, ⟨k1.mu, k1.sz, fun o ho => ⟨hi.dom o ho, k1.dom o ho⟩, fun o ho hd => k1.back o ho hd.2, fun b x e => f1 b x (k1.fz b x e), k1.kp, fun b x z e e' => ?_, k1.os, k1.tape, k1.output⟩, hi.unlast f3, ?_⟩
  · obtain ⟨z', hz'⟩ := f2 b x z (k1.kp b x e) e'
    exact k1.new b x z' e hz'
  · cases hv with
    | iv _ _ h => exact .iv _ _ h
/-- What makes an object makes memory that stands still, when that is told so. -/
theorem does_lit (hT : TyOK P tt) {o : Oper} {fr : List AV} {H : AHeap} {x : AV} {obj : AObj} {y : IV} (h : aop tt ⟨fr, H⟩ o = some (x, H ++ [some obj])) (hs : SnapC (onlyH [H.length] (H ++ [some obj])) x y) : Does P ops o fr H (.iv y) H := by
  intro Q G a w K hi hl hk
  refine does_aop (ops := ops) hT h Q G a w K hi hl fun G' v w' k1 k2 k3 k4 => ?_
  obtain ⟨G2, h1, h2, h3⟩ := lit_step hi k1 k3 k4 hs
  exact hk G2 v w' h1 (Nat.le_refl _) h2 h3
/-- A literal, at once taken as memory that stands still. -/
theorem ARes_lit (hT : TyOK P tt) {Q : Exit → AS → Prop} {s : AS} {o : Oper} {rest : List Oper} (y : IV) (hw : wantedS s.fr o = some true) {x : AV} {obj : AObj} (ha : aop tt s o = some (x, s.H ++ [some obj])) (hs : SnapC (onlyH [s.H.length] (s.H ++ [some obj])) x y)
    (h : ARes P Q (arun tt rest ⟨s.put o.dst (.iv y), s.H⟩)) : ARes P Q (o :: rest, s) :=
  ARes_gives hT hw (fun G a w hr => by
    obtain ⟨G', v, w', hrun, k1, k2, k3, k4⟩ := aop_gives hT ha G a w hr
    obtain ⟨G2, h1, h2, h3⟩ := lit_step hr.inv k1 k3 k4 hs
    exact ⟨G2, v, w', hrun, h1, Nat.le_refl _, h2, h3⟩) h
end
section
variable {P : Program} {tt : TT} {n0 : Nat} {us : List Nat}
theorem ADR_lit (hT : TyOK P tt) {H0 : AHeap} {K : List AV → AHeap → Prop} {Hc : AHeap} {al : List Kd} {fr : List AV} {o : Oper} {l : List Oper} (y : IV) (hw : wantedS fr o = some true)
    (ha : ∀ H, ∃ x obj, aop tt ⟨fr, H⟩ o = some (x, H ++ [some obj]) ∧ SnapC (onlyH [H.length] (H ++ [some obj])) x y) (h : ADR P n0 us H0 K Hc (drun tt H0 l al (putL fr o.dst (.iv y)))) : ADR P n0 us H0 K Hc (o :: l, .free :: al, fr) :=
  fun n hn => ⟨.iv y, Hc, none, .free _ (wanted_iff hn hw) fun H => by
    obtain ⟨x, obj, h1, h2⟩ := ha H
    exact does_lit hT h1 h2, (ADR_run hT h n (by show (putL _ _ _).length ≤ n; rw [putL_len]; exact hn))⟩
/-- A call that tells a value without objects of ours; its arguments have none. -/
theorem ADR_tells (hT : TyOK P tt) {H0 : AHeap} {K : List AV → AHeap → Prop} {Hc : AHeap} {al : List Kd} {fr : List AV} {l : List Oper} {f : FuncId} {args : Array Operand} {tys : Array TypeId} {d : Option Tmp} {ty : TypeId} {pos : String} {after : Array Edge} {g : Option (Nat × Bool)}
    (hw : wantedS fr ⟨d, .call { callee := .value (.func f), args := args, argTypes := tys }, ty, pos, after, g⟩ = some true) {x : AV} (hc : PF P f (args.toList.map (AS.ev ⟨fr, H0⟩)) fun r H' => r = x ∧ H' = []) (hargs : ∀ a ∈ args.toList.map (AS.ev ⟨fr, H0⟩), Ids 0 a) (hx : ∀ k, x.ren k = x)
    (h : ADR P n0 us H0 K Hc (drun tt H0 l al (putL fr d x))) : ADR P n0 us H0 K Hc (⟨d, .call { callee := .value (.func f), args := args, argTypes := tys }, ty, pos, after, g⟩ :: l, .free :: al, fr) :=
  fun n hn => ⟨x, Hc, none, .free _ (wanted_iff hn hw) fun H => does_call (.func f) args tys rfl f [] [] rfl (by
    have e : args.toList.map (AS.ev ⟨fr, H⟩) = args.toList.map (AS.ev ⟨fr, H0⟩) := List.map_congr_left fun y _ => by cases y <;> rfl
    simpa [e] using PF.tells (H := H) hargs hx hc), (ADR_run hT h n (by show (putL _ _ _).length ≤ n; rw [putL_len]; exact hn))⟩
theorem AW_drawF {s : AS} {Q : Exit → AS → Prop} (hT : TyOK P tt) (hm : P.follows .mixedOrders = true) {id : Nat} {ops : List Oper} (hord : ordOK ops.toArray ops.length (alF ops) = true)
    (h : ∀ (K : List AV → AHeap → Prop), (∀ F H', Q .normal ⟨F, H'⟩ → K F H') → ADR P s.H.length [] s.H K s.H (drun tt s.H (ops.map (strip (dsts ops))) (alF ops) s.fr)) : AW P (.region id ops.toArray true) Q s :=
  AW_draw hm ops.length (alF ops) hord fun K hK => by rw [List.take_length]; exact ADS_strip (ADR_run hT (h K fun F H' hy => hK F H' (by rw [List.drop_length]; exact AL_nil hy)))
end
end Go.Proofs.Ytmjkhjebeebahaa
namespace Go.Proofs.Ytmjkhjebeebahaa
open Go.RowKit
set_option linter.unusedVariables false
set_option linter.unusedSimpArgs false
section
variable {P : Program} {tt : TT}
def kdF : Op → Kd
  | .load _ _ => .read
  | .call c => match c.callee with
    | .value _ => .read
    | _ => .free
  | _ => .free
theorem kdF_free {o : Op} (h : freeOp o = true) : kdF o = .free := by
  unfold kdF
  split
  · simp [freeOp] at h
  · rename_i c
    split
    · rename_i hc
      unfold freeOp at h
      simp only [roOp, hc] at h
      cases h
    · rfl
  · rfl
theorem kdF_al (o : Op) : (kdF o).al = false := by
  unfold kdF
  split
  · rfl
  · split <;> rfl
  · rfl
def alG (l : List Oper) : List Kd := l.map fun o => kdF o.op
def runF : Op → Bool
  | .load _ _ => true
  | op => freeOp op
def drunF (tt : TT) (H0 : AHeap) : List Oper → List AV → List Oper × List AV
  | [], fr => ([], fr)
  | o :: l, fr => match wantedS fr o with
    | some false => drunF tt H0 l (putL fr o.dst uD)
    | some true => match runF o.op with
      | true => match aop tt ⟨fr, H0⟩ o with
        | some (x, _) => drunF tt H0 l (putL fr o.dst x)
        | none => (o :: l, fr)
      | false => (o :: l, fr)
    | none => (o :: l, fr)
/-- The first operations done so far, the rest to come. -/
def ADF (P : Program) (H0 : AHeap) (K : List AV → AHeap → Prop) (p : List Oper × List AV) : Prop := ADR P H0.length [] H0 K H0 (p.1, alG p.1, p.2)
variable {H0 : AHeap} {K : List AV → AHeap → Prop} {fr : List AV} {o : Oper} {l : List Oper}
theorem ADF_nil (h : K fr H0) : ADF P H0 K ([], fr) := ADR_nil h
theorem ADF_run (hT : TyOK P tt) : ∀ {l : List Oper} {fr : List AV}, ADF P H0 K (drunF tt H0 l fr) → ADF P H0 K (l, fr)
  | [], fr, h => h
  | o :: l, fr, h => by
    unfold drunF at h
    split at h
    · rename_i h2
      intro n hn
      refine ⟨uD, H0, none, ?_, ADF_run hT h n (by show (putL _ _ _).length ≤ n; rw [putL_len]; exact hn)⟩
      exact .skip _ (kdF_al o.op) (wanted_iff hn h2)
    · rename_i h2
      split at h
      · rename_i hro
        split at h
        · rename_i x H' hx
          intro n hn
          refine ⟨x, H0, none, ?_, ADF_run hT h n (by show (putL _ _ _).length ≤ n; rw [putL_len]; exact hn)⟩
          show OpOK P (idB n) o fr H0 H0 x H0 (kdF o.op) none
          unfold runF at hro
          split at hro
          · rename_i t y ho
            rw [ho]
            have hr : roOp o.op = true := by rw [ho]; rfl
            have := aop_ro hr hx
            subst this
            exact .pure x (wanted_iff hn h2) fun H hs => does_aop hT (aop_mono hs hr hx)
          · rename_i hne
            have := aop_ro (ro_of_free hro) hx
            subst this
            rw [kdF_free hro]
            exact .free x (wanted_iff hn h2) fun H => does_aop hT (aop_free hro hx)
        · exact h
      · exact h
    · exact h
/-- One operation. -/
theorem ADF_op (hT : TyOK P tt) (hr : runF o.op = true) (hw : wantedS fr o = some true) (h : match aop tt ⟨fr, H0⟩ o with | some (x, _) => ADF P H0 K (l, putL fr o.dst x) | none => False) : ADF P H0 K (o :: l, fr) := fun n hn => by
  cases hx : aop tt ⟨fr, H0⟩ o with
  | none => rw [hx] at h; exact h.elim
  | some p =>
  obtain ⟨x, H'⟩ := p
  rw [hx] at h
  refine ⟨x, H0, none, ?_, h n (by show (putL _ _ _).length ≤ n; rw [putL_len]; exact hn)⟩
  show OpOK P (idB n) o fr H0 H0 x H0 (kdF o.op) none
  unfold runF at hr
  split at hr
  · rename_i t y ho
    rw [ho]
    have hr : roOp o.op = true := by rw [ho]; rfl
    have := aop_ro hr hx
    subst this
    exact .pure x (wanted_iff hn hw) fun H hs => does_aop hT (aop_mono hs hr hx)
  · rename_i hne
    have := aop_ro (ro_of_free hr) hx
    subst this
    rw [kdF_free hr]
    exact .free x (wanted_iff hn hw) fun H => does_aop hT (aop_free hr hx)
theorem ADF_skip {b : Bool} (hw : wantedS fr o = some false) (h : ADF P H0 K (l, putL fr o.dst uD)) : ADF P H0 K (o :: l, fr) := fun n hn =>
  ⟨uD, H0, none, .skip _ (kdF_al o.op) (wanted_iff hn hw), h n (by show (putL _ _ _).length ≤ n; rw [putL_len]; exact hn)⟩
/-- A literal, at once taken as memory that stands still. -/
theorem ADF_lit (hT : TyOK P tt) (y : IV) (hk : kdF o.op = .free) (hw : wantedS fr o = some true)
    (ha : ∀ H, ∃ x obj, aop tt ⟨fr, H⟩ o = some (x, H ++ [some obj]) ∧ SnapC (onlyH [H.length] (H ++ [some obj])) x y) (h : ADF P H0 K (l, putL fr o.dst (.iv y))) : ADF P H0 K (o :: l, fr) := fun n hn => by
  refine ⟨.iv y, H0, none, ?_, h n (by show (putL _ _ _).length ≤ n; rw [putL_len]; exact hn)⟩
  show OpOK P (idB n) o fr H0 H0 (.iv y) H0 (kdF o.op) none
  rw [hk]
  exact .free _ (wanted_iff hn hw) fun H => by
    obtain ⟨x, obj, h1, h2⟩ := ha H
    exact does_lit hT h1 h2
/-- A call that tells a value without objects of ours; its arguments have none. -/
theorem ADF_tells (hT : TyOK P tt) {f : FuncId} {args : Array Operand} {tys : Array TypeId} {d : Option Tmp} {ty : TypeId} {pos : String} {after : Array Edge} {g : Option (Nat × Bool)}
    (hw : wantedS fr ⟨d, .call { callee := .value (.func f), args := args, argTypes := tys }, ty, pos, after, g⟩ = some true) {x : AV} (hc : PF P f (args.toList.map (AS.ev ⟨fr, H0⟩)) fun r H' => r = x ∧ H' = []) (hargs : ∀ a ∈ args.toList.map (AS.ev ⟨fr, H0⟩), Ids 0 a) (hx : ∀ k, x.ren k = x)
    (h : ADF P H0 K (l, putL fr d x)) : ADF P H0 K (⟨d, .call { callee := .value (.func f), args := args, argTypes := tys }, ty, pos, after, g⟩ :: l, fr) := fun n hn =>
  ⟨x, H0, none, .pure _ (wanted_iff hn hw) fun H _ => does_call (.func f) args tys rfl f [] [] rfl (by
    have e : args.toList.map (AS.ev ⟨fr, H⟩) = args.toList.map (AS.ev ⟨fr, H0⟩) := List.map_congr_left fun y _ => by cases y <;> rfl
    simpa [e] using PF.tells (H := H) hargs hx hc), h n (by show (putL _ _ _).length ≤ n; rw [putL_len]; exact hn)⟩
/-- A call that only reads the objects, and tells a value. -/
theorem ADF_reads (hT : TyOK P tt) {fo : Operand} {args : Array Operand} {tys : Array TypeId} {d : Option Tmp} {ty : TypeId} {pos : String} {after : Array Edge} {g : Option (Nat × Bool)}
    (hw : wantedS fr ⟨d, .call { callee := .value fo, args := args, argTypes := tys }, ty, pos, after, g⟩ = some true) {f : FuncId} {first caps : List AV} (hf : AS.ev ⟨fr, H0⟩ fo = .fn f first caps) {x : AV} (hc : ∀ H, Sub H0 H → SF P f (first ++ args.toList.map (AS.ev ⟨fr, H0⟩) ++ caps) H fun r H' => r = x ∧ H' = H)
    (h : ADF P H0 K (l, putL fr d x)) : ADF P H0 K (⟨d, .call { callee := .value fo, args := args, argTypes := tys }, ty, pos, after, g⟩ :: l, fr) := fun n hn =>
  ⟨x, H0, none, .pure _ (wanted_iff hn hw) fun H hs => does_call fo args tys rfl f first caps (by rw [show AS.ev ⟨fr, H⟩ fo = AS.ev ⟨fr, H0⟩ fo from by cases fo <;> rfl]; exact hf) (by
    have e : args.toList.map (AS.ev ⟨fr, H⟩) = args.toList.map (AS.ev ⟨fr, H0⟩) := List.map_congr_left fun y _ => by cases y <;> rfl
    rw [e]; exact hc H hs), h n (by show (putL _ _ _).length ≤ n; rw [putL_len]; exact hn)⟩
theorem AW_drawG {s : AS} {Q : Exit → AS → Prop} (hT : TyOK P tt) (hm : P.follows .mixedOrders = true) {id : Nat} {ops : List Oper} (l : List Oper) (hl : ops.map (strip (dsts ops)) = l) (hord : ordOK ops.toArray ops.length (alG ops) = true)
    (h : ∀ (K : List AV → AHeap → Prop), (∀ F H', Q .normal ⟨F, H'⟩ → K F H') → ADF P s.H K (l, s.fr)) : AW P (.region id ops.toArray true) Q s :=
  AW_draw hm ops.length (alG ops) hord fun K hK => by
    rw [List.take_length]
    refine ADS_strip (us := []) ?_
    have e : alG ops = alG l := by rw [← hl]; unfold alG; rw [List.map_map]; rfl
    rw [hl, e]
    exact h K fun F H' hy => hK F H' (by rw [List.drop_length]; exact AL_nil hy)
/-! ### One operation at a time, in regions that keep their order -/
section
variable {s : AS} {Q : Exit → AS → Prop}
theorem ARes_id {p : List Oper × AS} (h : ARes P Q p) : ARes P Q p := h
theorem ARes_op (hT : TyOK P tt) (hw : wantedS s.fr o = some true) (h : match aop tt s o with | some (x, H') => ARes P Q (l, ⟨s.put o.dst x, H'⟩) | none => False) : ARes P Q (o :: l, s) := fun n hn => by
  cases hx : aop tt s o with
  | none => rw [hx] at h; exact h.elim
  | some p =>
  obtain ⟨x, H'⟩ := p
  rw [hx] at h
  exact AL_gives (by rw [wantedS_ok hn]; exact hw) (aop_gives hT hx) (h n (by show (s.put _ _).length ≤ n; rw [put_len]; exact hn))
theorem ARes_skip (hw : wantedS s.fr o = some false) (h : ARes P Q (l, ⟨s.put o.dst uD, s.H⟩)) : ARes P Q (o :: l, s) := fun n hn =>
  AL_skip (by rw [wantedS_ok hn]; exact hw) (h n (by show (s.put _ _).length ≤ n; rw [put_len]; exact hn))
theorem ARes_tell {f : FuncId} {args : Array Operand} {tys : Array TypeId} {d : Option Tmp} {ty : TypeId} {pos : String} {after : Array Edge} {g : Option (Nat × Bool)}
    (hw : wantedS s.fr ⟨d, .call { callee := .value (.func f), args := args, argTypes := tys }, ty, pos, after, g⟩ = some true) {x : AV} (hc : PF P f (args.toList.map s.ev) fun r H' => r = x ∧ H' = []) (hargs : ∀ a ∈ args.toList.map s.ev, Ids 0 a) (hx : ∀ k, x.ren k = x)
    (h : ARes P Q (l, ⟨s.put d x, s.H⟩)) : ARes P Q (⟨d, .call { callee := .value (.func f), args := args, argTypes := tys }, ty, pos, after, g⟩ :: l, s) := fun n hn =>
  AL_call (by rw [wantedS_ok hn]; exact hw) (.func f) args tys rfl f [] [] rfl (fun r H1 => r = x ∧ H1 = s.H) (by simpa using PF.tells (H := s.H) hargs hx hc) fun r H' h1 h2 => by
    obtain ⟨e1, e2⟩ := h2
    subst e1 e2
    exact h n (by show (s.put _ _).length ≤ n; rw [put_len]; exact hn)
theorem ARes_say {f : FuncId} {args : Array Operand} {tys : Array TypeId} {d : Option Tmp} {ty : TypeId} {pos : String} {after : Array Edge} {g : Option (Nat × Bool)}
    (hw : wantedS s.fr ⟨d, .call { callee := .value (.func f), args := args, argTypes := tys }, ty, pos, after, g⟩ = some true) {args1 : List AV} {v : Value} (hc : PF P f args1 fun r H' => r = lt v ∧ H' = []) (hargs : SnapL s.H (args.toList.map s.ev) args1)
    (h : ARes P Q (l, ⟨s.put d (lt v), s.H⟩)) : ARes P Q (⟨d, .call { callee := .value (.func f), args := args, argTypes := tys }, ty, pos, after, g⟩ :: l, s) := fun n hn =>
  AL_call (by rw [wantedS_ok hn]; exact hw) (.func f) args tys rfl f [] [] rfl (fun r H1 => r = lt v ∧ H1 = s.H) (by simpa using hc.says hargs) fun r H' h1 h2 => by
    obtain ⟨e1, e2⟩ := h2
    subst e1 e2
    exact h n (by show (s.put _ _).length ≤ n; rw [put_len]; exact hn)
/-- What comes behind a piece of code is proved once, whatever the slots ds hold. -/
theorem AW_join {c : Code} {K : AS → Prop} (ds : List Nat) (ups : List (Nat × AV)) (tail : ∀ d, K ⟨updS (deadS s.fr d ds) ups, s.H⟩) (h : (∀ fr, fr = updS (deadS s.fr (fun i => fr.getD i uD) ds) ups → K ⟨fr, s.H⟩) → AW P c (thenA K Q) s) : AW P c (thenA K Q) s :=
  h fun fr e => by rw [e]; exact tail _
theorem AW_reg0 {id : Nat} {ops : List Oper} (h : ∀ K : AS → Prop, (∀ s, Q .normal s → K s) → ARes P (thenA K fun _ _ => False) (ops.map (strip (dsts ops)), s)) : AW P (.region id ops.toArray false) Q s :=
  AW_region (fun G a w hr => wpList_mono (fun e a w ⟨G', s', h1, h2, h3, h4⟩ => ⟨G', s', h1, h2, h3, by cases e <;> first | exact h4 | exact h4.elim⟩) _ _ _ (AL_strip (h (fun s => Q .normal s) fun _ h => h) G a w (by simpa using hr) : wpList P ops.toArray _ ops a w))
end
end
end Go.Proofs.Ytmjkhjebeebahaa
namespace Go.Proofs.Ytmjkhjebeebahaa
open Go.RowKit
set_option linter.unusedVariables false
set_option linter.unusedSimpArgs false

structure Gh.leb (m : Nat) (G G' : Gh) : Prop where
  mu : ∀ o, o < m → G.dom o → G'.mu o = G.mu o
  sz : ∀ o, o < m → G.dom o → G'.sz o = G.sz o
  dom : ∀ o, o < m → G.dom o → G'.dom o
  back : ∀ o, o < m → G'.dom o → G.dom o
  fz : ∀ b x, G.fz b = some x → G'.fz b = some x
  kp : ∀ b x, G.kp b = some x → G'.kp b = some x
  new : ∀ b x y, G.kp b = some x → G'.fz b = some y → ∃ z, G.fz b = some z
  os : G'.os = G.os
  tape : G'.tape = G.tape
  output : G'.output = G.output
theorem Gh.leb.refl (m : Nat) (G : Gh) : Gh.leb m G G := ⟨fun _ _ _ => rfl, fun _ _ _ => rfl, fun _ _ h => h, fun _ _ h => h, fun _ _ h => h, fun _ _ h => h, fun _ _ y _ h => ⟨y, h⟩, rfl, rfl, rfl⟩
theorem Gh.leb.trans {m : Nat} {a b c : Gh} (h : Gh.leb m a b) (k : Gh.leb m b c) : Gh.leb m a c :=
  ⟨fun o hm ho => (k.mu o hm (h.dom o hm ho)).trans (h.mu o hm ho), fun o hm ho => (k.sz o hm (h.dom o hm ho)).trans (h.sz o hm ho), fun o hm ho => k.dom o hm (h.dom o hm ho), fun o hm hd => h.back o hm (k.back o hm hd), fun b x e => k.fz b x (h.fz b x e), fun b x e => k.kp b x (h.kp b x e), fun b x y e f => (by obtain ⟨z, hz⟩ := k.new b x y (h.kp b x e) f; exact h.new b x z e hz), k.os.trans h.os, k.tape.trans h.tape, k.output.trans h.output⟩
theorem Gh.le.leb {n m : Nat} {G G' : Gh} (h : Gh.le n G G') (hm : m ≤ n) : Gh.leb m G G' :=
  ⟨fun o _ => h.mu o, fun o _ => h.sz o, fun o _ => h.dom o, fun o ho => h.back o (by omega), h.fz, h.kp, h.new, h.os, h.tape, h.output⟩
theorem Gh.leb.le {n : Nat} {G G' : Gh} (h : Gh.leb n G G') (hd : ∀ o, G.dom o → o < n) : Gh.le n G G' :=
  ⟨fun o ho => h.mu o (hd o ho) ho, fun o ho => h.sz o (hd o ho) ho, fun o ho => h.dom o (hd o ho) ho, h.back, h.fz, h.kp, h.new, h.os, h.tape, h.output⟩

def PostM (m : Nat) (G : Gh) (Q : Exit → AS → Prop) : Exit → Act → World → Prop := fun e a w => ∃ G' s', Gh.leb m G G' ∧ m ≤ s'.H.length ∧ Rst G' s' a w ∧ Q e s'
def AM (P : Program) (m : Nat) (c : Code) (Q : Exit → AS → Prop) (s : AS) : Prop := m ≤ s.H.length → ∀ G a w, Rst G s a w → c.wp P (PostM m G Q) a w
theorem PostM.step {m : Nat} {G G' : Gh} {Q : Exit → AS → Prop} {e : Exit} {a : Act} {w : World} (h : Gh.leb m G G') (p : PostM m G' Q e a w) : PostM m G Q e a w := by
  obtain ⟨G2, s2, h1, h2, h3, h4⟩ := p
  exact ⟨G2, s2, h.trans h1, h2, h3, h4⟩
theorem PostM.now {m : Nat} {G : Gh} {s : AS} {Q : Exit → AS → Prop} {e : Exit} {a : Act} {w : World} (hm : m ≤ s.H.length) (h : Rst G s a w) (hq : Q e s) : PostM m G Q e a w := ⟨G, s, Gh.leb.refl _ _, hm, h, hq⟩
/-- One state may be told as others. -/
def Leads (m : Nat) (s : AS) (S : AS → Prop) : Prop := ∀ G a w, m ≤ s.H.length → Rst G s a w → ∃ G' s', Gh.leb m G G' ∧ m ≤ s'.H.length ∧ Rst G' s' a w ∧ S s'
section
variable {P : Program} {m : Nat} {Q : Exit → AS → Prop} {s : AS}
theorem Leads.now {S : AS → Prop} (h : S s) : Leads m s S := fun G a w hm hr => ⟨G, s, Gh.leb.refl _ _, hm, hr, h⟩
theorem Leads.trans {S T : AS → Prop} (h : Leads m s S) (k : ∀ s', S s' → Leads m s' T) : Leads m s T := fun G a w hm hr => by
  obtain ⟨G1, s1, h1, h2, h3, h4⟩ := h G a w hm hr
  obtain ⟨G2, s2, k1, k2, k3, k4⟩ := k s1 h4 G1 a w h2 h3
  exact ⟨G2, s2, h1.trans k1, k2, k3, k4⟩
theorem Leads.mono {S T : AS → Prop} (h : Leads m s S) (k : ∀ s', S s' → T s') : Leads m s T := h.trans fun s' hs => .now (k s' hs)
theorem AM_leads {S : AS → Prop} {c : Code} (h : Leads m s S) (k : ∀ s', S s' → AM P m c Q s') : AM P m c Q s := fun hm G a w hr => by
  obtain ⟨G1, s1, h1, h2, h3, h4⟩ := h G a w hm hr
  exact wp_mono (k s1 h4 h2 G1 a w h3) fun e a w p => PostM.step h1 p
theorem AM_of {c : Code} (h : AW P c Q s) : AM P m c Q s := fun hm G a w hr =>
  wp_mono (h G a w hr) fun e a w ⟨G', s', h1, h2, h3, h4⟩ => ⟨G', s', h1.leb hm, Nat.le_trans hm h2, h3, h4⟩
theorem AM.mono {c : Code} {Q' : Exit → AS → Prop} (h : AM P m c Q s) (hq : ∀ e s, Q e s → Q' e s) : AM P m c Q' s := fun hm G a w hr =>
  wp_mono (h hm G a w hr) fun e a w ⟨G', s', h1, h2, h3, h4⟩ => ⟨G', s', h1, h2, h3, hq _ _ h4⟩
theorem AM_skip (h : Q .normal s) : AM P m .skip Q s := AM_of (AW_skip h)
theorem AM_label {l : Nat} (h : Q .normal s) : AM P m (.label l) Q s := AM_of (AW_label h)
theorem AM_exit {id : Nat} (h : Q (.exit id) s) : AM P m (.exit id) Q s := AM_of (AW_exit h)
theorem AM_goto {l : Nat} (h : Q (.goto l) s) : AM P m (.goto l) Q s := AM_of (AW_goto h)
theorem AM_ret (h : Q .ret s) : AM P m .ret Q s := AM_of (AW_ret h)
theorem AM_seq {x y : Code} (h : AM P m x (thenA (AM P m y Q) Q) s) : AM P m (.seq x y) Q s := fun hm G a w hr =>
  wp_seq (wp_mono (h hm G a w hr) fun e a w ⟨G', s', h1, h2, h3, h4⟩ => by
    cases e with
    | normal => exact wp_mono (h4 h2 G' a w h3) fun e a w p => PostM.step h1 p
    | _ => exact ⟨G', s', h1, h2, h3, h4⟩)
theorem AM_seq_k {x y : Code} (h : ∀ K : AS → Prop, Cont K (AM P m y Q) → AM P m x (thenA K Q) s) : AM P m (.seq x y) Q s := AM_seq (h _ ⟨fun _ h => h⟩)
theorem AM_block {id : Nat} {c : Code} (h : AM P m c (inBlockA id Q) s) : AM P m (.block id c) Q s := fun hm G a w hr =>
  wp_block (wp_mono (h hm G a w hr) fun e a w ⟨G', s', h1, h2, h3, h4⟩ => by
    cases e with
    | exit id' =>
      show Exit.inBlock id _ (.exit id') a w
      unfold Exit.inBlock
      unfold inBlockA at h4
      dsimp only at h4 ⊢
      split at h4
      · rename_i he; rw [if_pos he]; exact ⟨G', s', h1, h2, h3, h4⟩
      · rename_i he; rw [if_neg he]; exact ⟨G', s', h1, h2, h3, h4⟩
    | _ => exact ⟨G', s', h1, h2, h3, h4⟩)
theorem AM_cond {c : Operand} {x y : Code} (b : Bool) (hc : s.ev c = lt (.bool b)) (ht : b = true → AM P m x Q s) (hf : b = false → AM P m y Q s) : AM P m (.cond c x y) Q s := fun hm G a w hr => by
  have h := hr.ev c
  rw [hc] at h
  cases b with
  | true => exact wp_cond_true h.lit_inv (ht rfl hm G a w hr)
  | false => exact wp_cond_false h.lit_inv (hf rfl hm G a w hr)
theorem AM_if_t {c : Operand} {x y : Code} (hc : s.ev c = lt (.bool true)) (h : AM P m x Q s) : AM P m (.cond c x y) Q s := AM_cond true hc (fun _ => h) (fun h => by cases h)
theorem AM_if_f {c : Operand} {x y : Code} (hc : s.ev c = lt (.bool false)) (h : AM P m y Q s) : AM P m (.cond c x y) Q s := AM_cond false hc (fun h => by cases h) (fun _ => h)
theorem AM_loop {c : Code} (I : Nat → AS → Prop) (n0 : Nat) (h0 : Leads m s (I n0)) (round : ∀ n s, I n s → AM P m c (thenA (fun s' => Leads m s' fun s1 => ∃ k, k < n ∧ I k s1) Q) s) : AM P m (.loop c) Q s := fun hm G a w hr b k cs => by
  have key : ∀ n s, I n s → ∀ G a w, m ≤ s.H.length → Rst G s a w → ∃ e a' w', PostM m G Q e a' w' ∧ Arrives P (lone (b.at a (.code c :: .inLoop c :: k)) cs w) b k cs e a' w' := by
    intro n
    induction n using Nat.strongRecOn with
    | _ n ih =>
      intro s hI G a w hm hr
      obtain ⟨e, a1, w1, ⟨G', s', h1, h2, h3, h4⟩, harr⟩ := round n s hI hm G a w hr b (.inLoop c :: k) cs
      cases e with
      | normal =>
        obtain ⟨G1, s1, g1, g2, g3, m', hlt, hI1⟩ := (show Leads m s' _ from h4) G' a1 w1 h2 h3
        obtain ⟨e2, a2, w2, hp, harr2⟩ := ih m' hlt s1 hI1 G1 a1 w1 g2 g3
        exact ⟨e2, a2, w2, PostM.step (h1.trans g1) hp, .of_steps (Steps.trans harr (.one step_inLoop)) harr2⟩
      | exit id => exact ⟨_, a1, w1, ⟨G', s', h1, h2, h3, h4⟩, .pass (x := .inLoop c) rfl (fun _ _ => .inl (by simp)) harr⟩
      | goto l => exact ⟨_, a1, w1, ⟨G', s', h1, h2, h3, h4⟩, .pass (x := .inLoop c) rfl (fun _ _ => .inl (by simp)) harr⟩
      | ret => exact ⟨_, a1, w1, ⟨G', s', h1, h2, h3, h4⟩, .pass (x := .inLoop c) rfl (fun _ _ => .inl (by simp)) harr⟩
      | panic ch => exact ⟨_, a1, w1, ⟨G', s', h1, h2, h3, h4⟩, .pass (x := .inLoop c) rfl (fun _ _ => .inl (by simp)) harr⟩
      | outgrown => exact ⟨_, a1, w1, ⟨G', s', h1, h2, h3, h4⟩, .pass (x := .inLoop c) rfl (fun _ _ => .inl (by simp)) harr⟩
  obtain ⟨G0, s0, g1, g2, g3, g4⟩ := h0 G a w hm hr
  obtain ⟨e, a', w', hq, harr⟩ := key n0 s0 g4 G0 a w g2 g3
  exact ⟨e, a', w', PostM.step g1 hq, .of_steps (.one step_loop) harr⟩
/-- The end of a round. -/
def WhM {σ : Type} (m : Nat) (ds : List Nat) (f : σ → List (Nat × AV)) (hp : σ → AHeap) (I : σ → Prop) (mm : σ → Nat) (fr0 : List AV) (n : Nat) (s' : AS) : Prop := Leads m s' fun s1 => ∃ st' d', s1 = ⟨updS (deadS fr0 d' ds) (f st'), hp st'⟩ ∧ I st' ∧ mm st' < n
theorem AM_wh {σ : Type} {c : Code} (ds : List Nat) (f : σ → List (Nat × AV)) (hp : σ → AHeap) (I : σ → Prop) (mm : σ → Nat) (st0 : σ) (h0 : s = ⟨updS (deadS s.fr (fun i => s.fr.getD i uD) ds) (f st0), hp st0⟩) (hI : I st0)
    (round : ∀ st d fr, fr = updS (deadS s.fr d ds) (f st) → I st → AM P m c (thenA (WhM m ds f hp I mm s.fr (mm st)) Q) ⟨fr, hp st⟩) : AM P m (.loop c) Q s := by
  refine AM_loop (fun n s1 => ∃ st d, s1 = ⟨updS (deadS s.fr d ds) (f st), hp st⟩ ∧ I st ∧ mm st = n) (mm st0) (.now ⟨st0, _, h0, hI, rfl⟩) ?_
  rintro n s1 ⟨st, d, rfl, hst, rfl⟩
  refine (round st d _ rfl hst).mono fun e s h => ?_
  cases e with
  | normal => exact Leads.mono h fun s' ⟨st', d', h1, h2, h3⟩ => ⟨mm st', h3, st', d', h1, h2, rfl⟩
  | _ => exact h
theorem whm_end {σ : Type} {ds : List Nat} {f : σ → List (Nat × AV)} {hp : σ → AHeap} {I : σ → Prop} {mm : σ → Nat} {fr0 : List AV} {n : Nat} {s' : AS} (st' : σ) (hI : I st') (hm : mm st' < n) (h : s' = ⟨updS (deadS fr0 (fun i => s'.fr.getD i uD) ds) (f st'), hp st'⟩) : WhM m ds f hp I mm fr0 n s' := .now ⟨st', _, h, hI, hm⟩
theorem SF_of_bodyM {f : FuncId} {fn : Func} {c : Code} {args : List AV} {H : AHeap} {Q : AV → AHeap → Prop} (load : AHeap → TypeId → AV → Option AV) (hl : ∀ H, LoadOk P H (load H)) (hf : P.funcs[f]? = some fn) (hb : fn.body = some c) (hname : (fn.name == "runtime.NumGoroutine") = false)
    (h : AM P H.length c (bodyA P fn load Q) ⟨args ++ List.replicate (fn.ntmps - args.length) uD, H⟩) : SF P f args H Q := by
  refine ⟨⟨fn, hf, hname, by rw [hb]; rfl⟩, fun G w vs hi hr => ?_⟩
  refine calls_of_wp hf hb ?_
  refine wp_mono (h (Nat.le_refl _) G _ w ⟨rfl, ?_, hi⟩) ?_
  · simp only [Array.toList_append, Array.toList_replicate]
    refine RL.append hr ⟨by simp [hr.1], fun i x v h1 h2 => ?_⟩
    rw [List.getElem?_replicate] at h1 h2
    split at h1 <;> split at h2 <;> simp_all
    subst h1 h2
    exact .iv _ _ (.lit _)
  · rintro e a w' ⟨G', s', hleb, hn, hr', hq⟩
    have hle := hleb.le hi.dom
    cases e with
    | normal =>
      obtain ⟨r, h1, h2⟩ := hq
      obtain ⟨v, h3, h4⟩ := aresults_run (hl _) hr' h1
      exact ⟨hr'.defers, v, h3, v, r, G', s'.H, rfl, hle, hn, hr'.inv, h4, h2⟩
    | ret =>
      obtain ⟨r, h1, h2⟩ := hq
      obtain ⟨v, h3, h4⟩ := aresults_run (hl _) hr' h1
      exact ⟨hr'.defers, v, h3, v, r, G', s'.H, rfl, hle, hn, hr'.inv, h4, h2⟩
    | _ => exact hq.elim
end
end Go.Proofs.Ytmjkhjebeebahaa
