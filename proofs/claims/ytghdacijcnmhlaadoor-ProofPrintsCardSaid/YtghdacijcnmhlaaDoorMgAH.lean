import Derived.Test.YtghdacijcnmhlaaDoorMgAG
namespace Go.Proofs.YtghdacijcnmhlaaDoor
open Go.RowKit
set_option linter.unusedVariables false
set_option linter.unusedSimpArgs false
section
variable {P : Program} {tt : TT} {ops : Array Oper}
theorem RA.ids {n m : Nat} {G : Gh} (hd : ∀ o, G.dom o → o < n) {x : AV} {v : Value} (h : RA m G x v) : Ids n x := by
  induction h with
  | iv x v h => exact .iv x
  | agg xs vs h1 h2 h3 ih =>
    refine .agg xs fun i x e => ?_
    obtain ⟨v, hv⟩ := at_of_len h1 e
    exact ih i x v e hv
  | tup xs vs h1 h2 ih =>
    refine .tup xs fun i x e => ?_
    obtain ⟨v, hv⟩ := at_of_len h1 e
    exact ih i x v e hv
  | osl o off len sz b a cap h1 h2 h3 h4 h5 h6 => exact .osl o off len sz (hd o h1)
  | onil o off sz h1 => exact .osl o off 0 sz (hd o h1)
  | optr o off h1 => exact .optr o off (hd o h1)
  | xptr o sz h1 => exact .xptr o sz (hd o h1)
  | fn f first caps vs us h1 h2 h3 h4 ih1 ih2 =>
    refine .fn f first caps (fun i x e => ?_) fun i x e => ?_
    · obtain ⟨v, hv⟩ := at_of_len h1 e
      exact ih1 i x v e hv
    · obtain ⟨v, hv⟩ := at_of_len h2 e
      exact ih2 i x v e hv
theorem Inv.unlast {G G1 : Gh} {H : AHeap} {w w' : World} (hi : Inv G H w) (h : Inv G1 (H ++ [none]) w') : Inv { G1 with dom := fun o => o < H.length ∧ G1.dom o } H w' := by
  have old : ∀ o x, H[o]? = some (some x) → (H ++ [none])[o]? = some (some x) := fun o x e => by rw [List.getElem?_append_left (List.getElem?_eq_some_iff.1 e).1]; exact e
  refine ⟨h.os, h.tape, h.output, h.fz, h.kp, fun o ho => ho.1, fun o x e => ⟨(List.getElem?_eq_some_iff.1 e).1, h.live o x (old o x e)⟩, fun o x e => ?_, fun o o' x x' e e' => h.inj o o' x x' (old o x e) (old o' x' e')⟩
  refine (h.obj o x (old o x e)).imp id fun ⟨k0, cs, k1, k2, k3, k4, k5, k6⟩ => ⟨k0, cs, k1, k2, ⟨k3.1, fun i z u f f' => ?_⟩, k4, k5, k6⟩
  refine (k3.2 i z u f f').undom (k := H.length) (fun o ho hd => ⟨ho, hd⟩) ?_
  rcases hi.obj o x e with ⟨q, _⟩ | ⟨_, cs0, m1, m2, m3, m4, m5, m6⟩
  · rw [q] at f; simp at f
  · obtain ⟨v, hv, hr⟩ := m3.at f
    exact hr.ids fun o ho => hi.dom o ho
theorem set_last (H : AHeap) (x : Option AObj) : setN [H.length] (H ++ [x]) = H ++ [none] := by
  show (H ++ [x]).set H.length none = _
  rw [List.set_append_right _ _ (Nat.le_refl _), Nat.sub_self]; rfl
theorem lit_step {G G' : Gh} {H : AHeap} {w w' : World} {x : AV} {v : Value} {obj : AObj} {y : IV} (hi : Inv G H w) (k1 : Gh.le H.length G G') (k3 : Inv G' (H ++ [some obj]) w') (k4 : RA (H ++ [some obj]).length G' x v) (hs : SnapC (onlyH [H.length] (H ++ [some obj])) x y) :
    ∃ G2, Gh.le H.length G G2 ∧ Inv G2 H w' ∧ RA H.length G2 (.iv y) v := by
  obtain ⟨fz, f1, f2, f3, f4⟩ := k3.freeze [H.length]
  rw [set_last] at f3
  have hv := f4 x (.iv y) v (.iv _ _ hs) k4
  refine ⟨{ G' with fz := fz, dom := fun o => o < H.length ∧ G'.dom o, bs := baseOk_up f1 G'.bs }, ⟨k1.mu, k1.sz, fun o ho => ⟨hi.dom o ho, k1.dom o ho⟩, fun o ho hd => k1.back o ho hd.2, fun b x e => f1 b x (k1.fz b x e), k1.kp, fun b x z e e' => ?_, k1.os, k1.tape, k1.output⟩, hi.unlast f3, ?_⟩
  · obtain ⟨z', hz'⟩ := f2 b x z (k1.kp b x e) e'
    exact k1.new b x z' e hz'
  · cases hv with
    | iv _ _ h => exact .iv _ _ h
theorem does_lit (hT : TyOK P tt) {o : Oper} {fr : List AV} {H : AHeap} {x : AV} {obj : AObj} {y : IV} (h : aop tt ⟨fr, H⟩ o = some (x, H ++ [some obj])) (hs : SnapC (onlyH [H.length] (H ++ [some obj])) x y) : Does P ops o fr H (.iv y) H := by
  intro Q G a w K hi hl hk
  refine does_aop (ops := ops) hT h Q G a w K hi hl fun G' v w' k1 k2 k3 k4 => ?_
  obtain ⟨G2, h1, h2, h3⟩ := lit_step hi k1 k3 k4 hs
  exact hk G2 v w' h1 (Nat.le_refl _) h2 h3
end
section
variable {P : Program} {tt : TT} {n0 : Nat} {us : List Nat}
end
end Go.Proofs.YtghdacijcnmhlaaDoor
namespace Go.Proofs.YtghdacijcnmhlaaDoor
open Go.RowKit
set_option linter.unusedVariables false
set_option linter.unusedSimpArgs false
section
variable {P : Program} {tt : TT}
def kdF : Op → Kd
  | .load _ _ => .read
  | .call c => match c.callee with
    | .value _ => .read
    | _ => .free
  | _ => .free
theorem kdF_free {o : Op} (h : freeOp o = true) : kdF o = .free := by
  unfold kdF
  split
  · simp [freeOp] at h
  · rename_i c
    split
    · rename_i hc
      unfold freeOp at h
      simp only [roOp, hc] at h
      cases h
    · rfl
  · rfl
theorem kdF_al (o : Op) : (kdF o).al = false := by
  unfold kdF
  split
  · rfl
  · split <;> rfl
  · rfl
def alG (l : List Oper) : List Kd := l.map fun o => kdF o.op
def runF : Op → Bool
  | .load _ _ => true
  | op => freeOp op
def drunF (tt : TT) (H0 : AHeap) : List Oper → List AV → List Oper × List AV
  | [], fr => ([], fr)
  | o :: l, fr => match wantedS fr o with
    | some false => drunF tt H0 l (putL fr o.dst uD)
    | some true => match runF o.op with
      | true => match aop tt ⟨fr, H0⟩ o with
        | some (x, _) => drunF tt H0 l (putL fr o.dst x)
        | none => (o :: l, fr)
      | false => (o :: l, fr)
    | none => (o :: l, fr)
def ADF (P : Program) (H0 : AHeap) (K : List AV → AHeap → Prop) (p : List Oper × List AV) : Prop := ADR P H0.length [] H0 K H0 (p.1, alG p.1, p.2)
variable {H0 : AHeap} {K : List AV → AHeap → Prop} {fr : List AV} {o : Oper} {l : List Oper}
theorem ADF_nil (h : K fr H0) : ADF P H0 K ([], fr) := ADR_nil h
theorem ADF_op (hT : TyOK P tt) (hr : runF o.op = true) (hw : wantedS fr o = some true) (h : match aop tt ⟨fr, H0⟩ o with | some (x, _) => ADF P H0 K (l, putL fr o.dst x) | none => False) : ADF P H0 K (o :: l, fr) := fun n hn => by
  cases hx : aop tt ⟨fr, H0⟩ o with
  | none => rw [hx] at h; exact h.elim
  | some p =>
  obtain ⟨x, H'⟩ := p
  rw [hx] at h
  refine ⟨x, H0, none, ?_, h n (by show (putL _ _ _).length ≤ n; rw [putL_len]; exact hn)⟩
  show OpOK P (idB n) o fr H0 H0 x H0 (kdF o.op) none
  unfold runF at hr
  split at hr
  · rename_i t y ho
    rw [ho]
    have hr : roOp o.op = true := by rw [ho]; rfl
    have := aop_ro hr hx
    subst this
    exact .pure x (wanted_iff hn hw) fun H hs => does_aop hT (aop_mono hs hr hx)
  · rename_i hne
    have := aop_ro (ro_of_free hr) hx
    subst this
    rw [kdF_free hr]
    exact .free x (wanted_iff hn hw) fun H => does_aop hT (aop_free hr hx)
theorem ADF_skip {b : Bool} (hw : wantedS fr o = some false) (h : ADF P H0 K (l, putL fr o.dst uD)) : ADF P H0 K (o :: l, fr) := fun n hn =>
  ⟨uD, H0, none, .skip _ (kdF_al o.op) (wanted_iff hn hw), h n (by show (putL _ _ _).length ≤ n; rw [putL_len]; exact hn)⟩
theorem ADF_lit (hT : TyOK P tt) (y : IV) (hk : kdF o.op = .free) (hw : wantedS fr o = some true)
    (ha : ∀ H, ∃ x obj, aop tt ⟨fr, H⟩ o = some (x, H ++ [some obj]) ∧ SnapC (onlyH [H.length] (H ++ [some obj])) x y) (h : ADF P H0 K (l, putL fr o.dst (.iv y))) : ADF P H0 K (o :: l, fr) := fun n hn => by
  refine ⟨.iv y, H0, none, ?_, h n (by show (putL _ _ _).length ≤ n; rw [putL_len]; exact hn)⟩
  show OpOK P (idB n) o fr H0 H0 (.iv y) H0 (kdF o.op) none
  rw [hk]
  exact .free _ (wanted_iff hn hw) fun H => by
    obtain ⟨x, obj, h1, h2⟩ := ha H
    exact does_lit hT h1 h2
theorem ADF_tells (hT : TyOK P tt) {f : FuncId} {args : Array Operand} {tys : Array TypeId} {d : Option Tmp} {ty : TypeId} {pos : String} {after : Array Edge} {g : Option (Nat × Bool)}
    (hw : wantedS fr ⟨d, .call { callee := .value (.func f), args := args, argTypes := tys }, ty, pos, after, g⟩ = some true) {x : AV} (hc : PF P f (args.toList.map (AS.ev ⟨fr, H0⟩)) fun r H' => r = x ∧ H' = []) (hargs : ∀ a ∈ args.toList.map (AS.ev ⟨fr, H0⟩), Ids 0 a) (hx : ∀ k, x.ren k = x)
    (h : ADF P H0 K (l, putL fr d x)) : ADF P H0 K (⟨d, .call { callee := .value (.func f), args := args, argTypes := tys }, ty, pos, after, g⟩ :: l, fr) := fun n hn =>
  ⟨x, H0, none, .pure _ (wanted_iff hn hw) fun H _ => does_call (.func f) args tys rfl f [] [] rfl (by
    have e : args.toList.map (AS.ev ⟨fr, H⟩) = args.toList.map (AS.ev ⟨fr, H0⟩) := List.map_congr_left fun y _ => by cases y <;> rfl
    simpa [e] using PF.tells (H := H) hargs hx hc), h n (by show (putL _ _ _).length ≤ n; rw [putL_len]; exact hn)⟩
theorem ADF_reads (hT : TyOK P tt) {fo : Operand} {args : Array Operand} {tys : Array TypeId} {d : Option Tmp} {ty : TypeId} {pos : String} {after : Array Edge} {g : Option (Nat × Bool)}
    (hw : wantedS fr ⟨d, .call { callee := .value fo, args := args, argTypes := tys }, ty, pos, after, g⟩ = some true) {f : FuncId} {first caps : List AV} (hf : AS.ev ⟨fr, H0⟩ fo = .fn f first caps) {x : AV} (hc : ∀ H, Sub H0 H → SF P f (first ++ args.toList.map (AS.ev ⟨fr, H0⟩) ++ caps) H fun r H' => r = x ∧ H' = H)
    (h : ADF P H0 K (l, putL fr d x)) : ADF P H0 K (⟨d, .call { callee := .value fo, args := args, argTypes := tys }, ty, pos, after, g⟩ :: l, fr) := fun n hn =>
  ⟨x, H0, none, .pure _ (wanted_iff hn hw) fun H hs => does_call fo args tys rfl f first caps (by rw [show AS.ev ⟨fr, H⟩ fo = AS.ev ⟨fr, H0⟩ fo from by cases fo <;> rfl]; exact hf) (by
    have e : args.toList.map (AS.ev ⟨fr, H⟩) = args.toList.map (AS.ev ⟨fr, H0⟩) := List.map_congr_left fun y _ => by cases y <;> rfl
    rw [e]; exact hc H hs), h n (by show (putL _ _ _).length ≤ n; rw [putL_len]; exact hn)⟩
theorem AW_drawG {s : AS} {Q : Exit → AS → Prop} (hT : TyOK P tt) (hm : P.follows .mixedOrders = true) {id : Nat} {ops : List Oper} (l : List Oper) (hl : ops.map (strip (dsts ops)) = l) (hord : ordOK ops.toArray ops.length (alG ops) = true)
    (h : ∀ (K : List AV → AHeap → Prop), (∀ F H', Q .normal ⟨F, H'⟩ → K F H') → ADF P s.H K (l, s.fr)) : AW P (.region id ops.toArray true) Q s :=
  AW_draw hm ops.length (alG ops) hord fun K hK => by
    rw [List.take_length]
    refine ADS_strip (us := []) ?_
    have e : alG ops = alG l := by rw [← hl]; unfold alG; rw [List.map_map]; rfl
    rw [hl, e]
    exact h K fun F H' hy => hK F H' (by rw [List.drop_length]; exact AL_nil hy)
section
variable {s : AS} {Q : Exit → AS → Prop}
end
end
end Go.Proofs.YtghdacijcnmhlaaDoor
namespace Go.Proofs.YtghdacijcnmhlaaDoor
open Go.RowKit
set_option linter.unusedVariables false
set_option linter.unusedSimpArgs false
structure Gh.leb (m : Nat) (G G' : Gh) : Prop where
  mu : ∀ o, o < m → G.dom o → G'.mu o = G.mu o
  sz : ∀ o, o < m → G.dom o → G'.sz o = G.sz o
  dom : ∀ o, o < m → G.dom o → G'.dom o
  back : ∀ o, o < m → G'.dom o → G.dom o
  fz : ∀ b x, G.fz b = some x → G'.fz b = some x
  kp : ∀ b x, G.kp b = some x → G'.kp b = some x
  new : ∀ b x y, G.kp b = some x → G'.fz b = some y → ∃ z, G.fz b = some z
  os : G'.os = G.os
  tape : G'.tape = G.tape
  output : G'.output = G.output
theorem Gh.leb.refl (m : Nat) (G : Gh) : Gh.leb m G G := ⟨fun _ _ _ => rfl, fun _ _ _ => rfl, fun _ _ h => h, fun _ _ h => h, fun _ _ h => h, fun _ _ h => h, fun _ _ y _ h => ⟨y, h⟩, rfl, rfl, rfl⟩
theorem Gh.leb.trans {m : Nat} {a b c : Gh} (h : Gh.leb m a b) (k : Gh.leb m b c) : Gh.leb m a c :=
  ⟨fun o hm ho => (k.mu o hm (h.dom o hm ho)).trans (h.mu o hm ho), fun o hm ho => (k.sz o hm (h.dom o hm ho)).trans (h.sz o hm ho), fun o hm ho => k.dom o hm (h.dom o hm ho), fun o hm hd => h.back o hm (k.back o hm hd), fun b x e => k.fz b x (h.fz b x e), fun b x e => k.kp b x (h.kp b x e), fun b x y e f => (by obtain ⟨z, hz⟩ := k.new b x y (h.kp b x e) f; exact h.new b x z e hz), k.os.trans h.os, k.tape.trans h.tape, k.output.trans h.output⟩
theorem Gh.le.leb {n m : Nat} {G G' : Gh} (h : Gh.le n G G') (hm : m ≤ n) : Gh.leb m G G' :=
  ⟨fun o _ => h.mu o, fun o _ => h.sz o, fun o _ => h.dom o, fun o ho => h.back o (by omega), h.fz, h.kp, h.new, h.os, h.tape, h.output⟩
theorem Gh.leb.le {n : Nat} {G G' : Gh} (h : Gh.leb n G G') (hd : ∀ o, G.dom o → o < n) : Gh.le n G G' :=
  ⟨fun o ho => h.mu o (hd o ho) ho, fun o ho => h.sz o (hd o ho) ho, fun o ho => h.dom o (hd o ho) ho, h.back, h.fz, h.kp, h.new, h.os, h.tape, h.output⟩
def PostM (m : Nat) (G : Gh) (Q : Exit → AS → Prop) : Exit → Act → World → Prop := fun e a w => ∃ G' s', Gh.leb m G G' ∧ m ≤ s'.H.length ∧ Rst G' s' a w ∧ Q e s'
def AM (P : Program) (m : Nat) (c : Code) (Q : Exit → AS → Prop) (s : AS) : Prop := m ≤ s.H.length → ∀ G a w, Rst G s a w → c.wp P (PostM m G Q) a w
theorem PostM.step {m : Nat} {G G' : Gh} {Q : Exit → AS → Prop} {e : Exit} {a : Act} {w : World} (h : Gh.leb m G G') (p : PostM m G' Q e a w) : PostM m G Q e a w := by
  obtain ⟨G2, s2, h1, h2, h3, h4⟩ := p
  exact ⟨G2, s2, h.trans h1, h2, h3, h4⟩
theorem PostM.now {m : Nat} {G : Gh} {s : AS} {Q : Exit → AS → Prop} {e : Exit} {a : Act} {w : World} (hm : m ≤ s.H.length) (h : Rst G s a w) (hq : Q e s) : PostM m G Q e a w := ⟨G, s, Gh.leb.refl _ _, hm, h, hq⟩
def Leads (m : Nat) (s : AS) (S : AS → Prop) : Prop := ∀ G a w, m ≤ s.H.length → Rst G s a w → ∃ G' s', Gh.leb m G G' ∧ m ≤ s'.H.length ∧ Rst G' s' a w ∧ S s'
section
variable {P : Program} {m : Nat} {Q : Exit → AS → Prop} {s : AS}
theorem Leads.now {S : AS → Prop} (h : S s) : Leads m s S := fun G a w hm hr => ⟨G, s, Gh.leb.refl _ _, hm, hr, h⟩
theorem Leads.trans {S T : AS → Prop} (h : Leads m s S) (k : ∀ s', S s' → Leads m s' T) : Leads m s T := fun G a w hm hr => by
  obtain ⟨G1, s1, h1, h2, h3, h4⟩ := h G a w hm hr
  obtain ⟨G2, s2, k1, k2, k3, k4⟩ := k s1 h4 G1 a w h2 h3
  exact ⟨G2, s2, h1.trans k1, k2, k3, k4⟩
theorem Leads.mono {S T : AS → Prop} (h : Leads m s S) (k : ∀ s', S s' → T s') : Leads m s T := h.trans fun s' hs => .now (k s' hs)
theorem AM.mono {c : Code} {Q' : Exit → AS → Prop} (h : AM P m c Q s) (hq : ∀ e s, Q e s → Q' e s) : AM P m c Q' s := fun hm G a w hr =>
  wp_mono (h hm G a w hr) fun e a w ⟨G', s', h1, h2, h3, h4⟩ => ⟨G', s', h1, h2, h3, hq _ _ h4⟩
def WhM {σ : Type} (m : Nat) (ds : List Nat) (f : σ → List (Nat × AV)) (hp : σ → AHeap) (I : σ → Prop) (mm : σ → Nat) (fr0 : List AV) (n : Nat) (s' : AS) : Prop := Leads m s' fun s1 => ∃ st' d', s1 = ⟨updS (deadS fr0 d' ds) (f st'), hp st'⟩ ∧ I st' ∧ mm st' < n
end
end Go.Proofs.YtghdacijcnmhlaaDoor
namespace Go.Proofs.YtghdacijcnmhlaaDoor
open Go.RowKit
set_option linter.unusedVariables false
set_option linter.unusedSimpArgs false
mutual
def AV.rn (r : Nat → Nat) : AV → AV
  | .iv x => .iv x
  | .agg xs => .agg (rnL r xs)
  | .tup xs => .tup (rnL r xs)
  | .osl o off len sz => .osl (r o) off len sz
  | .optr o off => .optr (r o) off
  | .xptr o sz => .xptr (r o) sz
  | .fn f first caps => .fn f (rnL r first) (rnL r caps)
def rnL (r : Nat → Nat) : List AV → List AV
  | [] => []
  | x :: xs => x.rn r :: rnL r xs
end
mutual
def AV.idB (p : Nat → Bool) : AV → Bool
  | .iv x => true
  | .agg xs => idL p xs
  | .tup xs => idL p xs
  | .osl o off len sz => p o
  | .optr o off => p o
  | .xptr o sz => p o
  | .fn f first caps => idL p first && idL p caps
def idL (p : Nat → Bool) : List AV → Bool
  | [] => true
  | x :: xs => x.idB p && idL p xs
end
theorem rnL_map (r : Nat → Nat) (xs : List AV) : rnL r xs = xs.map (AV.rn r) := by
  induction xs with
  | nil => rfl
  | cons x xs ih => unfold rnL; rw [ih]; rfl
theorem idL_all (p : Nat → Bool) (xs : List AV) : idL p xs = xs.all (AV.idB p) := by
  induction xs with
  | nil => rfl
  | cons x xs ih => unfold idL; rw [ih]; rfl
theorem rn_one (r : Nat → Nat) (x : AV) : (x.rn r).one = x.one := by cases x <;> rfl
theorem rnL_one (r : Nat → Nat) (xs : List AV) : (rnL r xs).all AV.one = xs.all AV.one := by
  rw [rnL_map, List.all_map]; congr 1; funext x; exact rn_one r x
theorem RA.rn {n n' : Nat} {G G' : Gh} {r : Nat → Nat} {p : Nat → Bool} (hd : ∀ o, p o = true → G.dom o → G'.dom (r o)) (hmu : ∀ o, p o = true → G'.mu (r o) = G.mu o) (hsz : ∀ o, p o = true → G'.sz (r o) = G.sz o) (hfz : ∀ b x, G.fz b = some x → G'.fz b = some x) {x : AV} {v : Value} (h : RA n G x v) (hi : x.idB p = true) : RA n' G' (x.rn r) v := by
  have lst : ∀ {xs : List AV} {vs : List Value}, (∀ (i : Nat) (x : AV) (v : Value), xs[i]? = some x → vs[i]? = some v → x.idB p = true → RA n' G' (x.rn r) v) → idL p xs = true → ∀ (i : Nat) (x : AV) (v : Value), (rnL r xs)[i]? = some x → vs[i]? = some v → RA n' G' x v := by
    intro xs vs ih hi i x v e1 e2
    rw [rnL_map, List.getElem?_map] at e1
    obtain ⟨y, hy, rfl⟩ := Option.map_eq_some_iff.1 e1
    rw [idL_all, List.all_eq_true] at hi
    exact ih i y v hy e2 (hi y (List.mem_iff_getElem?.2 ⟨i, hy⟩))
  have len : ∀ {xs : List AV} {vs : List Value}, xs.length = vs.length → (rnL r xs).length = vs.length := fun h => by rw [rnL_map, List.length_map]; exact h
  induction h with
  | iv x v h => exact .iv x v (h.mono hfz)
  | agg xs vs h1 h2 h3 ih => exact .agg _ vs (len h1) (lst (fun i x v e1 e2 e3 => ih i x v e1 e2 e3) hi) (by rw [rnL_one]; exact h3)
  | tup xs vs h1 h2 ih => exact .tup _ vs (len h1) (lst (fun i x v e1 e2 e3 => ih i x v e1 e2 e3) hi)
  | osl o off len sz b a cap h1 h2 h3 h4 h5 h6 => exact .osl _ off len sz b a cap (hd o hi h1) (by rw [hmu o hi]; exact h2) (by rw [hmu o hi]; exact h3) h4 h5 (by rw [hsz o hi]; exact h6)
  | onil o off sz h1 => exact .onil _ off sz (hd o hi h1)
  | optr o off h1 => rw [← hmu o hi]; exact .optr _ off (hd o hi h1)
  | xptr o sz h1 h2 h3 => rw [← hmu o hi]; exact .xptr _ sz (hd o hi h1) (by rw [hmu o hi]; exact h2) (by rw [hsz o hi]; exact h3)
  | fn f first caps vs us h1 h2 h3 h4 ih1 ih2 =>
    have hi' : idL p first = true ∧ idL p caps = true := by simpa [AV.idB] using hi
    exact .fn f _ _ vs us (len h1) (len h2) (lst (fun i x v e1 e2 e3 => ih1 i x v e1 e2 e3) hi'.1) (lst (fun i x v e1 e2 e3 => ih2 i x v e1 e2 e3) hi'.2)
def newNo (m : Nat) (sel : List Nat) (o : Nat) : Nat := if o < m then o else m + sel.idxOf o
def oldNo (m : Nat) (sel : List Nat) (o : Nat) : Nat := if o < m then o else sel.getD (o - m) 0
def named (m : Nat) (sel : List Nat) (o : Nat) : Bool := decide (o < m) || sel.contains o
def AObj.rn (r : Nat → Nat) (x : AObj) : AObj := ⟨x.t, rnL r x.cells⟩
def atH (H : AHeap) (o : Nat) : Option AObj := match H[o]? with | some x => x | none => none
def selH (m : Nat) (sel : List Nat) (H : AHeap) : AHeap := (H.take m ++ sel.map (atH H)).map (Option.map (AObj.rn (newNo m sel)))
def okH (p : Nat → Bool) : AHeap → Bool
  | [] => true
  | none :: H => okH p H
  | some x :: H => idL p x.cells && okH p H
theorem okH_at {p : Nat → Bool} : ∀ {H : AHeap} {o : Nat} {x : AObj}, okH p H = true → H[o]? = some (some x) → idL p x.cells = true
  | none :: H, 0, x, h, e => by simp at e
  | none :: H, o + 1, x, h, e => okH_at (H := H) h (by simpa using e)
  | some y :: H, 0, x, h, e => by simp at e; subst e; unfold okH at h; rw [Bool.and_eq_true] at h; exact h.1
  | some y :: H, o + 1, x, h, e => by unfold okH at h; rw [Bool.and_eq_true] at h; exact okH_at (H := H) h.2 (by simpa using e)
def okF (p : Nat → Bool) (ds : List Nat) : Nat → List AV → Bool
  | _, [] => true
  | i, x :: fr => (ds.contains i || x.idB p) && okF p ds (i + 1) fr
theorem okF_at {p : Nat → Bool} {ds : List Nat} : ∀ {fr : List AV} {i j : Nat} {x : AV}, okF p ds i fr = true → fr[j]? = some x → i + j ∉ ds → x.idB p = true
  | y :: fr, i, 0, x, h, e, hn => by
    simp at e; subst e
    unfold okF at h
    simp only [Bool.and_eq_true, Bool.or_eq_true, List.contains_iff_mem] at h
    rcases h.1 with h | h
    · exact absurd h hn
    · exact h
  | y :: fr, i, j + 1, x, h, e, hn => by
    unfold okF at h
    rw [Bool.and_eq_true] at h
    exact okF_at (fr := fr) (i := i + 1) (j := j) h.2 (by simpa using e) (by rw [show i + 1 + j = i + (j + 1) by omega]; exact hn)
theorem deadS_at {d : Nat → AV} : ∀ {ds : List Nat} {fr : List AV} {i : Nat}, i < fr.length → (deadS fr d ds)[i]? = if i ∈ ds then some (d i) else fr[i]?
  | [], fr, i, _ => by simp [deadS]
  | e :: ds, fr, i, hi => by
    show (deadS (fr.set e (d e)) d ds)[i]? = _
    rw [deadS_at (by simpa using hi)]
    by_cases h1 : i ∈ ds
    · rw [if_pos h1, if_pos (List.mem_cons_of_mem _ h1)]
    · rw [if_neg h1]
      by_cases h2 : i = e
      · subst h2; rw [if_pos (List.mem_cons_self ..), List.getElem?_set_self hi]
      · rw [if_neg (by simp [h1, h2]), List.getElem?_set_ne (Ne.symm h2)]
theorem deadS_len {d : Nat → AV} : ∀ {ds : List Nat} {fr : List AV}, (deadS fr d ds).length = fr.length
  | [], fr => rfl
  | e :: ds, fr => by show (deadS (fr.set e (d e)) d ds).length = _; rw [deadS_len, List.length_set]
theorem old_new {m : Nat} {sel : List Nat} {o : Nat} (h : named m sel o = true) : oldNo m sel (newNo m sel o) = o := by
  unfold named at h
  unfold newNo oldNo
  by_cases ho : o < m
  · rw [if_pos ho, if_pos ho]
  · rw [if_neg ho, if_neg (by omega), Nat.add_sub_cancel_left]
    have hs : o ∈ sel := by simpa [ho] using h
    have hl : sel.idxOf o < sel.length := List.idxOf_lt_length_iff.2 hs
    rw [List.getD_eq_getElem?_getD, List.getElem?_eq_getElem hl, Option.getD_some]
    exact List.getElem_idxOf hl
theorem selH_len {m : Nat} {sel : List Nat} {H : AHeap} (hm : m ≤ H.length) : (selH m sel H).length = m + sel.length := by
  unfold selH; simp [Nat.min_eq_left hm]
theorem selH_at {m : Nat} {sel : List Nat} {H : AHeap} (hm : m ≤ H.length) {o : Nat} {x : AObj} (h : (selH m sel H)[o]? = some (some x)) : (o < m ∨ ∃ p, sel[o - m]? = some p ∧ oldNo m sel o = p) ∧ o < m + sel.length ∧ ∃ y, H[oldNo m sel o]? = some (some y) ∧ x = y.rn (newNo m sel) := by
  have hlt : o < m + sel.length := by rw [← selH_len (sel := sel) hm]; exact (List.getElem?_eq_some_iff.1 h).1
  unfold selH at h
  rw [List.getElem?_map] at h
  obtain ⟨z, hz, e⟩ := Option.map_eq_some_iff.1 h
  obtain ⟨y, hy, rfl⟩ := Option.map_eq_some_iff.1 e
  subst hy
  have hl : (H.take m).length = m := by simp [Nat.min_eq_left hm]
  by_cases ho : o < m
  · rw [List.getElem?_append_left (by rw [hl]; exact ho), List.getElem?_take_of_lt ho] at hz
    exact ⟨.inl ho, hlt, y, by unfold oldNo; rw [if_pos ho]; exact hz, rfl⟩
  · rw [List.getElem?_append_right (by rw [hl]; omega), hl, List.getElem?_map] at hz
    obtain ⟨p, hp, e⟩ := Option.map_eq_some_iff.1 hz
    have ho2 : oldNo m sel o = p := by unfold oldNo; rw [if_neg ho, List.getD_eq_getElem?_getD, hp]; rfl
    refine ⟨.inr ⟨p, hp, ho2⟩, hlt, y, ?_, rfl⟩
    rw [ho2]
    unfold atH at e
    split at e
    · rename_i x hx; rw [hx, e]
    · cases e
theorem Leads.ren {m : Nat} {s : AS} {S : AS → Prop} (sel ds : List Nat) (hs1 : sel.Nodup) (hs2 : sel.all (fun p => decide (m ≤ p)) = true) (hH : okH (named m sel) (s.H.take m ++ sel.map (atH s.H)) = true) (hF : okF (named m sel) ds 0 s.fr = true)
    (h : ∀ d : Nat → Value, S ⟨deadS (s.fr.map (AV.rn (newNo m sel))) (fun i => lt (d i)) ds, selH m sel s.H⟩) : Leads m s S := fun G a w hm hr => by
  have hge : ∀ p ∈ sel, m ≤ p := fun p hp => by simpa using List.all_eq_true.1 hs2 p hp
  let G1 : Gh := { G with dom := fun o => o < m + sel.length ∧ G.dom (oldNo m sel o), mu := fun o => G.mu (oldNo m sel o), sz := fun o => G.sz (oldNo m sel o) }
  have low : ∀ {o}, o < m → oldNo m sel o = o := fun {o} ho => by unfold oldNo; rw [if_pos ho]
  have hnew : ∀ {o}, named m sel o = true → newNo m sel o < m + sel.length := fun {o} ho => by
    unfold newNo
    unfold named at ho
    by_cases h1 : o < m
    · rw [if_pos h1]; omega
    · rw [if_neg h1]
      have : sel.idxOf o < sel.length := List.idxOf_lt_length_iff.2 (by simpa [h1] using ho)
      omega
  have ra : ∀ {x : AV} {v : Value}, RA s.H.length G x v → x.idB (named m sel) = true → RA (selH m sel s.H).length G1 (x.rn (newNo m sel)) v := fun hx hi =>
    RA.rn (G' := G1) (r := newNo m sel) (p := named m sel) (fun o ho hd => ⟨hnew ho, by rw [old_new ho]; exact hd⟩) (fun o ho => congrArg G.mu (old_new ho)) (fun o ho => congrArg G.sz (old_new ho)) (fun _ _ e => e) hx hi
  refine ⟨G1, _, ⟨fun o ho _ => congrArg G.mu (low ho), fun o ho _ => congrArg G.sz (low ho), fun o ho hd => ⟨by omega, by rw [low ho]; exact hd⟩, fun o ho hd => by have := hd.2; rw [low ho] at this; exact this, fun _ _ e => e, fun _ _ e => e, fun _ _ y _ e => ⟨y, e⟩, rfl, rfl, rfl⟩, by rw [selH_len hm]; omega, ⟨hr.defers, ?_, ?_⟩, h fun i => a.tmps.toList.getD i undef⟩
  · refine ⟨by rw [deadS_len, List.length_map]; exact hr.fr.1, fun i x v e1 e2 => ?_⟩
    have hi : i < s.fr.length := by rw [hr.fr.1]; exact (List.getElem?_eq_some_iff.1 e2).1
    rw [deadS_at (by simpa using hi)] at e1
    split at e1
    · cases e1
      rw [List.getD_eq_getElem?_getD, e2]
      exact .iv _ _ (.lit _)
    · rename_i hn
      rw [List.getElem?_map] at e1
      obtain ⟨y, hy, rfl⟩ := Option.map_eq_some_iff.1 e1
      exact ra (hr.fr.2 i y v hy e2) (okF_at hF hy (by rw [Nat.zero_add]; exact hn))
  · have hi := hr.inv
    refine ⟨hi.os, hi.tape, hi.output, hi.fz, hi.kp, fun o ho => by rw [selH_len hm]; exact ho.1, fun o x e => ?_, fun o x e => ?_, fun o o' x x' e e' hne z z' => ?_⟩
    · obtain ⟨_, h1, y, hy, _⟩ := selH_at hm e
      exact ⟨h1, hi.live _ _ hy⟩
    · obtain ⟨h0, h1, y, hy, rfl⟩ := selH_at hm e
      have hid : idL (named m sel) y.cells = true := by
        rcases h0 with h0 | ⟨p, h0, h2⟩
        · refine okH_at (o := o) hH ?_
          rw [List.getElem?_append_left (by simp [Nat.min_eq_left hm]; exact h0), List.getElem?_take_of_lt h0]
          rw [low h0] at hy; exact hy
        · by_cases hom : o < m
          · refine okH_at (o := o) hH ?_
            rw [List.getElem?_append_left (by simp [Nat.min_eq_left hm]; exact hom), List.getElem?_take_of_lt hom]
            rw [low hom] at hy; exact hy
          · refine okH_at (o := o) hH ?_
            have hl : (s.H.take m).length = m := by simp [Nat.min_eq_left hm]
            rw [List.getElem?_append_right (by rw [hl]; omega), hl, List.getElem?_map, h0, Option.map_some]
            rw [h2] at hy
            unfold atH; rw [hy]
      rcases hi.obj _ _ hy with ⟨c1, c2⟩ | ⟨c1, cs, k1, k2, k3, k4, k5, k6⟩
      · exact .inl ⟨by show rnL _ y.cells = []; rw [c1]; rfl, c2⟩
      · refine .inr ⟨c1, cs, k1, k2, ⟨?_, fun j x v e1 e2 => ?_⟩, by show (rnL _ y.cells).all AV.one = true; rw [rnL_one]; exact k4, k5, k6⟩
        · show (rnL _ y.cells).length = ((cs.toList.drop (G.mu (oldNo m sel o)).2).take (rnL _ y.cells).length).length
          rw [rnL_map, List.length_map]; exact k3.1
        · have e1' : (rnL (newNo m sel) y.cells)[j]? = some x := e1
          have e2' : ((cs.toList.drop (G.mu (oldNo m sel o)).2).take (rnL (newNo m sel) y.cells).length)[j]? = some v := e2
          rw [rnL_map, List.getElem?_map] at e1'
          rw [rnL_map, List.length_map] at e2'
          obtain ⟨z, hz, rfl⟩ := Option.map_eq_some_iff.1 e1'
          rw [idL_all, List.all_eq_true] at hid
          exact ra (k3.2 j z v hz e2') (hid z (List.mem_iff_getElem?.2 ⟨j, hz⟩))
    · obtain ⟨p0, p1, y, hy, _⟩ := selH_at hm e
      obtain ⟨q0, q1, y', hy', _⟩ := selH_at hm e'
      refine hi.inj _ _ _ _ hy hy' (fun heq => hne ?_) z z'
      have at' : ∀ {o}, ¬ o < m → o < m + sel.length → sel[o - m]? = some (oldNo m sel o) := fun {o} h1 h2 => by
        unfold oldNo
        rw [if_neg h1, List.getD_eq_getElem?_getD, List.getElem?_eq_getElem (by omega)]; rfl
      by_cases a1 : o < m <;> by_cases a2 : o' < m
      · rw [low a1, low a2] at heq; exact heq
      · rw [low a1] at heq
        have := hge _ (List.mem_iff_getElem?.2 ⟨_, at' a2 q1⟩)
        omega
      · rw [low a2] at heq
        have := hge _ (List.mem_iff_getElem?.2 ⟨_, at' a1 p1⟩)
        omega
      · have e1 := at' a1 p1
        have e2 := at' a2 q1
        rw [heq] at e1
        have := (List.getElem?_inj (by omega) hs1).1 (e1.trans e2.symm)
        omega
theorem Leads.dead {m : Nat} {s : AS} {S : AS → Prop} (ds : List Nat) (h : ∀ d : Nat → Value, S ⟨deadS s.fr (fun i => lt (d i)) ds, s.H⟩) : Leads m s S := fun G a w hm hr => by
  refine ⟨G, ⟨deadS s.fr (fun i => lt (a.tmps.toList.getD i undef)) ds, s.H⟩, Gh.leb.refl _ _, hm, ⟨hr.defers, ?_, hr.inv⟩, h fun i => a.tmps.toList.getD i undef⟩
  refine ⟨by rw [deadS_len]; exact hr.fr.1, fun i x v e1 e2 => ?_⟩
  have hi : i < s.fr.length := by rw [hr.fr.1]; exact (List.getElem?_eq_some_iff.1 e2).1
  rw [deadS_at hi] at e1
  split at e1
  · cases e1
    rw [List.getD_eq_getElem?_getD, e2]
    exact .iv _ _ (.lit _)
  · exact hr.fr.2 i x v e1 e2
theorem Leads.nil {m : Nat} {s : AS} {S : AS → Prop} (i : Nat) (t sz : Nat) (hi : s.fr[i]? = some (lt (.slice none 0 0))) (h : S ⟨s.fr.set i (.osl s.H.length 0 0 sz), s.H ++ [some ⟨t, []⟩]⟩) : Leads m s S := fun G a w hm hr => by
  have hd : ¬ G.dom s.H.length := hr.inv.new
  have hle := Gh.more_le G (m := s.H.length) (n := s.H.length) (Nat.le_refl _) hd (0, 0) 0
  refine ⟨G.more s.H.length (0, 0) 0, _, hle.leb hm, by simp; omega, ⟨hr.defers, ?_, ?_⟩, h⟩
  · have hv : ∃ v, a.tmps.toList[i]? = some v ∧ RA s.H.length G (lt (.slice none 0 0)) v := hr.fr.at hi
    obtain ⟨v, hv, hx⟩ := hv
    have := hx.lit_inv; subst this
    have hset : a.tmps.toList = a.tmps.toList.set i (.slice none 0 0) := by
      apply List.ext_getElem?
      intro j
      by_cases hj : i = j
      · subst hj; rw [List.getElem?_set_self (List.getElem?_eq_some_iff.1 hv).1, hv]
      · rw [List.getElem?_set_ne hj]
    rw [hset]
    refine (hr.fr.mono hle (by simp)).set i (.onil _ 0 sz (.inl rfl))
  · have hi0 := hr.inv
    have old : ∀ {o x}, (s.H ++ [some (AObj.mk t [])])[o]? = some (some x) → (o = s.H.length ∧ x = ⟨t, []⟩) ∨ (o < s.H.length ∧ s.H[o]? = some (some x)) := fun {o x} e => by
      rcases Nat.lt_or_ge o s.H.length with h1 | h1
      · rw [List.getElem?_append_left h1] at e; exact .inr ⟨h1, e⟩
      · rw [List.getElem?_append_right h1] at e
        have h2 := (List.getElem?_eq_some_iff.1 e).1
        simp at h2
        have h3 : o = s.H.length := by omega
        subst h3; simp at e; exact .inl ⟨rfl, e.symm⟩
    have mu' : ∀ {o}, o < s.H.length → (G.more s.H.length (0, 0) 0).mu o = G.mu o ∧ (G.more s.H.length (0, 0) 0).sz o = G.sz o := fun {o} ho => ⟨if_neg (by omega), if_neg (by omega)⟩
    refine ⟨hi0.os, hi0.tape, hi0.output, hi0.fz, hi0.kp, fun o ho => ?_, fun o x e => ?_, fun o x e => ?_, fun o o' x x' e e' hne z z' => ?_⟩
    · rcases ho with rfl | ho
      · simp
      · have := hi0.dom o ho; simp; omega
    · rcases old e with ⟨rfl, _⟩ | ⟨_, e⟩
      · exact .inl rfl
      · exact .inr (hi0.live o x e)
    · rcases old e with ⟨rfl, rfl⟩ | ⟨h1, e⟩
      · exact .inl ⟨rfl, if_pos rfl⟩
      · obtain ⟨m1, m2⟩ := mu' h1
        rcases hi0.obj o x e with ⟨c1, c2⟩ | ⟨c1, cs, k1, k2, k3, k4, k5, k6⟩
        · exact .inl ⟨c1, m2.trans c2⟩
        · exact .inr ⟨by rw [m2]; exact c1, cs, by rw [m1]; exact k1, by rw [m2]; exact k2, by rw [m1]; exact k3.mono hle (by simp), k4, by rw [m1]; exact k5, by rw [m1]; exact k6⟩
    · rcases old e with ⟨rfl, rfl⟩ | ⟨h1, e⟩
      · exact absurd (if_pos rfl) z
      · rcases old e' with ⟨rfl, rfl⟩ | ⟨h2, e'⟩
        · exact absurd (if_pos rfl) z'
        · rw [(mu' h1).1, (mu' h2).1]
          exact hi0.inj o o' x x' e e' hne (by rw [← (mu' h1).2]; exact z) (by rw [← (mu' h2).2]; exact z')
end Go.Proofs.YtghdacijcnmhlaaDoor
