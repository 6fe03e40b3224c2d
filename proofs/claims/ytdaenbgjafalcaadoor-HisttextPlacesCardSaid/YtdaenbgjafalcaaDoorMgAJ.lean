import Derived.Test.YtdaenbgjafalcaaDoorMgAH
namespace Go.Proofs.YtdaenbgjafalcaaDoor
open Go.RowKit
set_option linter.unusedVariables false
set_option linter.unusedSimpArgs false
section
variable {P : Program} {tt : TT}
theorem SnapC.rif2 {HD H : AHeap} {x : AV} {y : IV} (h : SnapC HD x y) (hs : ∀ (o : Nat) (obj : AObj), HD[o]? = some (some obj) → H[o]? = some (some obj)) {G : Gh} {w : World} {fz : Nat → Option Obj} (hi : Inv G H w) (hfz : ∀ b x, G.fz b = some x → fz b = some x) (hown : ∀ (o : Nat) (obj : AObj), HD[o]? = some (some obj) → G.sz o ≠ 0 → fz (G.mu o).1 = w.heap[(G.mu o).1]?) : ∀ {v : Value}, RA H.length G x v → RI fz y v := by
  induction h with
  | iv x => intro v hr; cases hr with | iv _ _ h => exact h.mono hfz
  | nil get sz => intro v hr; have := hr.lit_inv; subst this; exact .nil _ _ 0 (Nat.zero_le _)
  | osl o off len sz get obj ys h0 ho h1 h2 ih =>
    intro v hr
    cases hr with
    | onil => exact .nil _ _ 0 (Nat.zero_le _)
    | osl _ _ _ _ b a cap k1 k2 k3 k4 k5 k6 =>
      by_cases hl : len = 0
      · subst hl; exact .empty _ _ _ _ k5
      · have hpos : 0 < len * sz := Nat.mul_pos (by omega) (by omega)
        obtain ⟨m0, cs, m1, m2, m3, m4, m5, m6⟩ := hi.real (hs _ _ ho) (fun e => by have := h1 0 hpos; rw [e] at this; simp at this)
        rw [← hown o obj ho m0] at m1
        have ha := k3 (by omega)
        subst ha
        rw [k2] at m1
        refine .sl get len sz b ((G.mu o).2 + off) cap cs obj.t (0, 0) (fun j => cs.toList.getD ((G.mu o).2 + off + j) undef) m1 (fun j hj => ?_) (fun j hj => ?_) k4 k5
        · obtain ⟨u, hu, _⟩ := m3.cell (h1 j hj)
          rw [← Nat.add_assoc] at hu
          rw [← Array.getElem?_toList, hu, List.getD_eq_getElem?_getD, hu]; rfl
        · obtain ⟨u, hu, hr⟩ := m3.cell (h1 j hj)
          rw [← Nat.add_assoc] at hu
          rw [List.getD_eq_getElem?_getD, hu]
          exact ih j hj hr
  | optr o off ext get obj ys h0 ho h1 h2 ih =>
    intro v hr
    cases hr with
    | optr _ _ k1 =>
      obtain ⟨m0, cs, m1, m2, m3, m4, m5, m6⟩ := hi.real (hs _ _ ho) (fun e => by have := h1 0 (by omega); rw [e] at this; simp at this)
      rw [← hown o obj ho m0] at m1
      refine .ptr get ext _ ((G.mu o).2 + off) cs obj.t (0, 0) (fun j => cs.toList.getD ((G.mu o).2 + off + j) undef) m1 (fun j hj => ?_) (fun j hj => ?_)
      · obtain ⟨u, hu, _⟩ := m3.cell (h1 j hj)
        rw [← Nat.add_assoc] at hu
        rw [← Array.getElem?_toList, hu, List.getD_eq_getElem?_getD, hu]; rfl
      · obtain ⟨u, hu, hr⟩ := m3.cell (h1 j hj)
        rw [← Nat.add_assoc] at hu
        rw [List.getD_eq_getElem?_getD, hu]
        exact ih j hj hr
inductive FrzV (HD : AHeap) : AV → AV → Prop
  | same (x : AV) : FrzV HD x x
  | iv (x : AV) (y : IV) : SnapC HD x y → FrzV HD x (.iv y)
  | agg (xs ys : List AV) : xs.length = ys.length → (∀ (i : Nat) (x y : AV), xs[i]? = some x → ys[i]? = some y → FrzV HD x y) → ys.all AV.one = true → FrzV HD (.agg xs) (.agg ys)
theorem FrzV.ra {HD H : AHeap} {x y : AV} (h : FrzV HD x y) (hs : ∀ (o : Nat) (obj : AObj), HD[o]? = some (some obj) → H[o]? = some (some obj)) {G : Gh} {w : World} {fz : Nat → Option Obj} (hi : Inv G H w) (hfz : ∀ b x, G.fz b = some x → fz b = some x) (hown : ∀ (o : Nat) (obj : AObj), HD[o]? = some (some obj) → G.sz o ≠ 0 → fz (G.mu o).1 = w.heap[(G.mu o).1]?) : ∀ {v : Value}, RA H.length G x v → RA H.length { G with fz := fz, bs := baseOk_up hfz G.bs } y v := by
  induction h with
  | same x => intro v hr; exact RA.fzmono hfz hr
  | iv x y h => intro v hr; exact .iv _ _ (h.rif2 hs hi hfz hown hr)
  | agg xs ys h1 h2 h3 ih =>
    intro v hr
    cases hr with
    | agg _ vs k1 k2 k3 =>
      refine .agg _ _ (h1.symm.trans k1) (fun i y u e e' => ?_) h3
      obtain ⟨x, hx⟩ := at_of_len h1.symm e
      exact ih i x y hx e (k2 i x u hx e')
def onlyH (ds : List Nat) (H : AHeap) : AHeap := H.mapIdx fun i x => if i ∈ ds then x else none
def setN : List Nat → AHeap → AHeap
  | [], H => H
  | d :: ds, H => setN ds (H.set d none)
theorem onlyH_at {ds : List Nat} {H : AHeap} {o : Nat} {obj : AObj} : (onlyH ds H)[o]? = some (some obj) ↔ o ∈ ds ∧ H[o]? = some (some obj) := by
  unfold onlyH
  rw [List.getElem?_mapIdx]
  by_cases h : o ∈ ds
  · simp [h]
  · cases H[o]? <;> simp [h]
theorem only_mk {ds : List Nat} {H : AHeap} {o : Nat} {obj : AObj} (h : o ∈ ds) (e : H[o]? = some (some obj)) : (onlyH ds H)[o]? = some (some obj) := onlyH_at.2 ⟨h, e⟩
theorem setN_len : ∀ (ds : List Nat) (H : AHeap), (setN ds H).length = H.length
  | [], H => rfl
  | d :: ds, H => by show (setN ds _).length = _; rw [setN_len, List.length_set]
theorem setN_at : ∀ {ds : List Nat} {H : AHeap} {o : Nat} {obj : AObj}, (setN ds H)[o]? = some (some obj) → o ∉ ds ∧ H[o]? = some (some obj)
  | [], H, o, obj, h => ⟨by simp, h⟩
  | d :: ds, H, o, obj, h => by
    obtain ⟨h1, h2⟩ := setN_at (ds := ds) h
    rw [List.getElem?_set] at h2
    by_cases hd : d = o
    · rw [if_pos hd] at h2; split at h2 <;> simp at h2
    · rw [if_neg hd] at h2
      exact ⟨by simp only [List.mem_cons, not_or]; exact ⟨fun e => hd e.symm, h1⟩, h2⟩
def FrL (HD : AHeap) (fr fr' : List AV) : Prop := fr.length = fr'.length ∧ ∀ (i : Nat) (x y : AV), fr[i]? = some x → fr'[i]? = some y → FrzV HD x y
theorem FrL.same (HD : AHeap) (fr : List AV) : FrL HD fr fr := ⟨rfl, fun i x y h1 h2 => by rw [h1] at h2; cases h2; exact .same _⟩
theorem FrL.upd {HD : AHeap} {fr0 : List AV} : ∀ {ups : List (Nat × AV)} {fr : List AV}, FrL HD fr0 fr → (∀ p ∈ ups, FrzV HD (fr0.getD p.1 uD) p.2) → FrL HD fr0 (updS fr ups)
  | [], fr, h, _ => h
  | (i, y) :: ups, fr, h, hp => by
    refine FrL.upd (ups := ups) (fr := fr.set i y) ⟨by rw [List.length_set]; exact h.1, fun j x z h1 h2 => ?_⟩ fun p hq => hp p (List.mem_cons_of_mem _ hq)
    rw [List.getElem?_set] at h2
    by_cases hij : i = j
    · subst hij
      rw [if_pos rfl] at h2
      split at h2
      · cases h2
        have := hp (i, y) (List.mem_cons_self ..)
        rw [List.getD_eq_getElem?_getD, h1] at this
        exact this
      · cases h2
    · rw [if_neg hij] at h2; exact h.2 j x z h1 h2
open Classical in
theorem Inv.freeze {G : Gh} {H : AHeap} {w : World} (hi : Inv G H w) (ds : List Nat) : ∃ fz : Nat → Option Obj, ∃ hfz : (∀ b x, G.fz b = some x → fz b = some x), (∀ b x y, G.kp b = some x → fz b = some y → ∃ z, G.fz b = some z) ∧ Inv { G with fz := fz, bs := baseOk_up hfz G.bs } (setN ds H) w ∧ ∀ x y v, FrzV (onlyH ds H) x y → RA H.length G x v → RA H.length { G with fz := fz, bs := baseOk_up hfz G.bs } y v := by
  let fz : Nat → Option Obj := fun b => match G.kp b with | some _ => G.fz b | none => if ∃ o obj, (setN ds H)[o]? = some (some obj) ∧ G.sz o ≠ 0 ∧ (G.mu o).1 = b then none else w.heap[b]?
  have hfz : ∀ b x, G.fz b = some x → fz b = some x := fun b x e => by
    show (match G.kp b with | some _ => G.fz b | none => _) = some x
    split
    · exact e
    · split
      · rename_i h
        obtain ⟨o, obj, k1, k2, k3⟩ := h
        obtain ⟨_, cs, m1, m2, m3, m4, m5, m6⟩ := (hi.obj o obj (setN_at k1).2).resolve_left fun q => k2 q.2
        rw [k3, e] at m5; cases m5
      · exact hi.fz b x e
  have hown : ∀ o obj, (onlyH ds H)[o]? = some (some obj) → G.sz o ≠ 0 → fz (G.mu o).1 = w.heap[(G.mu o).1]? := fun o obj e hs => by
    obtain ⟨e1, e2⟩ := onlyH_at.1 e
    obtain ⟨_, cs, m1, m2, m3, m4, m5, m6⟩ := (hi.obj o obj e2).resolve_left fun q => hs q.2
    show (match G.kp (G.mu o).1 with | some _ => G.fz _ | none => _) = _
    rw [m6]
    show (if _ then _ else _) = _
    rw [if_neg]
    rintro ⟨o', obj', k1, k2, k3⟩
    obtain ⟨k4, k5⟩ := setN_at k1
    exact hi.inj o' o _ _ k5 e2 (fun h => k4 (h ▸ e1)) k2 hs k3
  refine ⟨fz, hfz, fun b x y e e' => ?_, ⟨hi.os, hi.tape, hi.output, fun b x e => ?_, hi.kp, fun o ho => by rw [setN_len]; exact hi.dom o ho, fun o x e => hi.live o x (setN_at e).2, fun o x e => ?_, fun o o' x x' e e' => hi.inj o o' x x' (setN_at e).2 (setN_at e').2⟩, fun x y v h hr => h.ra (fun o obj h => (onlyH_at.1 h).2) hi hfz hown hr⟩
  · have e2 : fz b = some y := e'
    simp only [fz, e] at e2
    exact ⟨y, e2⟩
  · have e2 : fz b = some x := e
    simp only [fz] at e2
    split at e2
    · exact hi.fz b x e2
    · split at e2
      · cases e2
      · exact e2
  · refine (hi.obj o x (setN_at e).2).imp id fun ⟨k0, cs, k1, k2, k3, k4, k5, k6⟩ => ⟨k0, cs, k1, k2, ?_, k4, ?_, k6⟩
    · show RL (setN ds H).length _ _ _
      rw [setN_len]
      exact ⟨k3.1, fun i z u f f' => RA.fzmono hfz (k3.2 i z u f f')⟩
    · show (match G.kp (G.mu o).1 with | some _ => G.fz _ | none => _) = _
      rw [k6]
      show (if _ then _ else _) = _
      rw [if_pos ⟨o, x, e, k0, rfl⟩]
theorem Rst.freeze {G : Gh} {s : AS} {a : Act} {w : World} (hr : Rst G s a w) (ds : List Nat) {fr' : List AV} (hf : FrL (onlyH ds s.H) s.fr fr') : ∃ G', Gh.le s.H.length G G' ∧ Rst G' ⟨fr', setN ds s.H⟩ a w := by
  obtain ⟨h1, h2, hi⟩ := hr
  obtain ⟨fz, k1, k2, k3, k4⟩ := hi.freeze ds
  refine ⟨{ G with fz := fz, bs := baseOk_up k1 G.bs }, ⟨fun _ _ => rfl, fun _ _ => rfl, fun _ h => h, fun _ _ h => h, k1, fun _ _ e => e, k2, rfl, rfl, rfl⟩, h1, ⟨hf.1.symm.trans h2.1, fun i y v e e' => ?_⟩, k3⟩
  obtain ⟨x, hx⟩ := at_of_len hf.1.symm e
  show RA (setN ds s.H).length _ _ _
  rw [setN_len]
  exact k4 x y v (hf.2 i x y hx e) (h2.2 i x v hx e')
theorem AL.freeze {ops : Array Oper} {l : List Oper} {Q : Exit → AS → Prop} {s : AS} (ds : List Nat) (ups : List (Nat × AV)) (hu : ∀ p ∈ ups, FrzV (onlyH ds s.H) (s.fr.getD p.1 uD) p.2) (h : AL P ops l Q ⟨updS s.fr ups, setN ds s.H⟩) : AL P ops l Q s := fun G a w hr => by
  obtain ⟨G', hle, hr'⟩ := hr.freeze ds ((FrL.same _ _).upd hu)
  exact wpList_mono (fun e a w p => Post.step hle (by show _ ≤ (setN ds s.H).length; rw [setN_len]; exact Nat.le_refl _) p) _ _ _ (h G' a w hr')
theorem PF.says {f : FuncId} {args args1 : List AV} {H : AHeap} {v : Value} (hargs : SnapL H args args1) (h : PF P f args1 fun r H' => r = lt v ∧ H' = []) : SF P f args H fun r H1 => r = lt v ∧ H1 = H :=
  (h.snap hargs fun r H1 ⟨e1, e2⟩ => by subst e1 e2; exact ⟨.lit _, fun o x e => by simp at e⟩).mono fun r H' ⟨r1, H1, ⟨e1, e2⟩, e3, e4⟩ => by subst e1 e2; exact ⟨e3, by rw [e4]; simp [renH]⟩
theorem PF.tells {f : FuncId} {args : List AV} {x : AV} {H : AHeap} (hargs : ∀ a ∈ args, Ids 0 a) (hx : ∀ k, x.ren k = x) (h : PF P f args fun r H' => r = x ∧ H' = []) : SF P f args H fun r H1 => r = x ∧ H1 = H :=
  (h.among hargs).mono fun r H' ⟨r1, H1, ⟨e1, e2⟩, e3, e4⟩ => by subst e1 e2; exact ⟨e3.trans (hx _), by rw [e4]; simp [renH]⟩
def ids0 : AV → Bool
  | .iv _ => true
  | .agg [] | .tup [] => true
  | .agg [.iv _] | .tup [.iv _] => true
  | .agg [.iv _, .iv _] | .tup [.iv _, .iv _] => true
  | .agg [.iv _, .iv _, .iv _] | .tup [.iv _, .iv _, .iv _] => true
  | _ => false
theorem SnapL.same {H : AHeap} : ∀ {xs : List AV}, (∀ x ∈ xs, Ids 0 x) → SnapL H xs xs
  | [], _ => SnapL.nil _
  | x :: xs, h => SnapL.cons (.same _ (h x (List.mem_cons_self ..))) (SnapL.same fun y hy => h y (List.mem_cons_of_mem _ hy))
theorem SnapC.lits {H : AHeap} {o off len : Nat} {obj : AObj} (vs : Nat → Value) (ho : H[o]? = some (some obj)) (h : ∀ j, j < len → obj.cells[off + j]? = some (lt (vs j))) : SnapC H (.osl o off len 1) (.sl (fun j => .lit (vs j)) len 1) :=
  .osl o off len 1 _ obj (fun j => lt (vs j)) (by omega) ho (fun j hj => h j (by omega)) fun j _ => .iv _
end
end Go.Proofs.YtdaenbgjafalcaaDoor
namespace Go.Proofs.YtdaenbgjafalcaaDoor
open Go.RowKit
set_option linter.unusedVariables false
set_option linter.unusedSimpArgs false
section
variable {P : Program} {tt : TT} {ops : Array Oper}
theorem RA.ids {n m : Nat} {G : Gh} (hd : ∀ o, G.dom o → o < n) {x : AV} {v : Value} (h : RA m G x v) : Ids n x := by
  induction h with
  | iv x v h => exact .iv x
  | agg xs vs h1 h2 h3 ih =>
    refine .agg xs fun i x e => ?_
    obtain ⟨v, hv⟩ := at_of_len h1 e
    exact ih i x v e hv
  | tup xs vs h1 h2 ih =>
    refine .tup xs fun i x e => ?_
    obtain ⟨v, hv⟩ := at_of_len h1 e
    exact ih i x v e hv
  | osl o off len sz b a cap h1 h2 h3 h4 h5 h6 => exact .osl o off len sz (hd o h1)
  | onil o off sz h1 => exact .osl o off 0 sz (hd o h1)
  | optr o off h1 => exact .optr o off (hd o h1)
  | xptr o sz h1 => exact .xptr o sz (hd o h1)
  | fn f first caps vs us h1 h2 h3 h4 ih1 ih2 =>
    refine .fn f first caps (fun i x e => ?_) fun i x e => ?_
    · obtain ⟨v, hv⟩ := at_of_len h1 e
      exact ih1 i x v e hv
    · obtain ⟨v, hv⟩ := at_of_len h2 e
      exact ih2 i x v e hv
theorem Inv.unlast {G G1 : Gh} {H : AHeap} {w w' : World} (hi : Inv G H w) (h : Inv G1 (H ++ [none]) w') : Inv { G1 with dom := fun o => o < H.length ∧ G1.dom o } H w' := by
  have old : ∀ o x, H[o]? = some (some x) → (H ++ [none])[o]? = some (some x) := fun o x e => by rw [List.getElem?_append_left (List.getElem?_eq_some_iff.1 e).1]; exact e
  refine ⟨h.os, h.tape, h.output, h.fz, h.kp, fun o ho => ho.1, fun o x e => ⟨(List.getElem?_eq_some_iff.1 e).1, h.live o x (old o x e)⟩, fun o x e => ?_, fun o o' x x' e e' => h.inj o o' x x' (old o x e) (old o' x' e')⟩
  refine (h.obj o x (old o x e)).imp id fun ⟨k0, cs, k1, k2, k3, k4, k5, k6⟩ => ⟨k0, cs, k1, k2, ⟨k3.1, fun i z u f f' => ?_⟩, k4, k5, k6⟩
  refine (k3.2 i z u f f').undom (k := H.length) (fun o ho hd => ⟨ho, hd⟩) ?_
  rcases hi.obj o x e with ⟨q, _⟩ | ⟨_, cs0, m1, m2, m3, m4, m5, m6⟩
  · rw [q] at f; simp at f
  · obtain ⟨v, hv, hr⟩ := m3.at f
    exact hr.ids fun o ho => hi.dom o ho
theorem set_last (H : AHeap) (x : Option AObj) : setN [H.length] (H ++ [x]) = H ++ [none] := by
  show (H ++ [x]).set H.length none = _
  rw [List.set_append_right _ _ (Nat.le_refl _), Nat.sub_self]; rfl
theorem lit_step {G G' : Gh} {H : AHeap} {w w' : World} {x : AV} {v : Value} {obj : AObj} {y : IV} (hi : Inv G H w) (k1 : Gh.le H.length G G') (k3 : Inv G' (H ++ [some obj]) w') (k4 : RA (H ++ [some obj]).length G' x v) (hs : SnapC (onlyH [H.length] (H ++ [some obj])) x y) :
    ∃ G2, Gh.le H.length G G2 ∧ Inv G2 H w' ∧ RA H.length G2 (.iv y) v := by
  obtain ⟨fz, f1, f2, f3, f4⟩ := k3.freeze [H.length]
  rw [set_last] at f3
  have hv := f4 x (.iv y) v (.iv _ _ hs) k4
  refine ⟨{ G' with fz := fz, dom := fun o => o < H.length ∧ G'.dom o, bs := baseOk_up f1 G'.bs }, ⟨k1.mu, k1.sz, fun o ho => ⟨hi.dom o ho, k1.dom o ho⟩, fun o ho hd => k1.back o ho hd.2, fun b x e => f1 b x (k1.fz b x e), k1.kp, fun b x z e e' => ?_, k1.os, k1.tape, k1.output⟩, hi.unlast f3, ?_⟩
  · obtain ⟨z', hz'⟩ := f2 b x z (k1.kp b x e) e'
    exact k1.new b x z' e hz'
  · cases hv with
    | iv _ _ h => exact .iv _ _ h
theorem does_lit (hT : TyOK P tt) {o : Oper} {fr : List AV} {H : AHeap} {x : AV} {obj : AObj} {y : IV} (h : aop tt ⟨fr, H⟩ o = some (x, H ++ [some obj])) (hs : SnapC (onlyH [H.length] (H ++ [some obj])) x y) : Does P ops o fr H (.iv y) H := by
  intro Q G a w K hi hl hk
  refine does_aop (ops := ops) hT h Q G a w K hi hl fun G' v w' k1 k2 k3 k4 => ?_
  obtain ⟨G2, h1, h2, h3⟩ := lit_step hi k1 k3 k4 hs
  exact hk G2 v w' h1 (Nat.le_refl _) h2 h3
end
section
variable {P : Program} {tt : TT} {n0 : Nat} {us : List Nat}
end
end Go.Proofs.YtdaenbgjafalcaaDoor
namespace Go.Proofs.YtdaenbgjafalcaaDoor
open Go.RowKit
set_option linter.unusedVariables false
set_option linter.unusedSimpArgs false
section
variable {P : Program} {tt : TT}
def kdF : Op → Kd
  | .load _ _ => .read
  | .call c => match c.callee with
    | .value _ => .read
    | _ => .free
  | _ => .free
theorem kdF_free {o : Op} (h : freeOp o = true) : kdF o = .free := by
  unfold kdF
  split
  · simp [freeOp] at h
  · rename_i c
    split
    · rename_i hc
      unfold freeOp at h
      simp only [roOp, hc] at h
      cases h
    · rfl
  · rfl
theorem kdF_al (o : Op) : (kdF o).al = false := by
  unfold kdF
  split
  · rfl
  · split <;> rfl
  · rfl
def alG (l : List Oper) : List Kd := l.map fun o => kdF o.op
def runF : Op → Bool
  | .load _ _ => true
  | op => freeOp op
def drunF (tt : TT) (H0 : AHeap) : List Oper → List AV → List Oper × List AV
  | [], fr => ([], fr)
  | o :: l, fr => match wantedS fr o with
    | some false => drunF tt H0 l (putL fr o.dst uD)
    | some true => match runF o.op with
      | true => match aop tt ⟨fr, H0⟩ o with
        | some (x, _) => drunF tt H0 l (putL fr o.dst x)
        | none => (o :: l, fr)
      | false => (o :: l, fr)
    | none => (o :: l, fr)
def ADF (P : Program) (H0 : AHeap) (K : List AV → AHeap → Prop) (p : List Oper × List AV) : Prop := ADR P H0.length [] H0 K H0 (p.1, alG p.1, p.2)
variable {H0 : AHeap} {K : List AV → AHeap → Prop} {fr : List AV} {o : Oper} {l : List Oper}
theorem ADF_nil (h : K fr H0) : ADF P H0 K ([], fr) := ADR_nil h
theorem ADF_op (hT : TyOK P tt) (hr : runF o.op = true) (hw : wantedS fr o = some true) (h : match aop tt ⟨fr, H0⟩ o with | some (x, _) => ADF P H0 K (l, putL fr o.dst x) | none => False) : ADF P H0 K (o :: l, fr) := fun n hn => by
  cases hx : aop tt ⟨fr, H0⟩ o with
  | none => rw [hx] at h; exact h.elim
  | some p =>
  obtain ⟨x, H'⟩ := p
  rw [hx] at h
  refine ⟨x, H0, none, ?_, h n (by show (putL _ _ _).length ≤ n; rw [putL_len]; exact hn)⟩
  show OpOK P (idB n) o fr H0 H0 x H0 (kdF o.op) none
  unfold runF at hr
  split at hr
  · rename_i t y ho
    rw [ho]
    have hr : roOp o.op = true := by rw [ho]; rfl
    have := aop_ro hr hx
    subst this
    exact .pure x (wanted_iff hn hw) fun H hs => does_aop hT (aop_mono hs hr hx)
  · rename_i hne
    have := aop_ro (ro_of_free hr) hx
    subst this
    rw [kdF_free hr]
    exact .free x (wanted_iff hn hw) fun H => does_aop hT (aop_free hr hx)
theorem ADF_skip {b : Bool} (hw : wantedS fr o = some false) (h : ADF P H0 K (l, putL fr o.dst uD)) : ADF P H0 K (o :: l, fr) := fun n hn =>
  ⟨uD, H0, none, .skip _ (kdF_al o.op) (wanted_iff hn hw), h n (by show (putL _ _ _).length ≤ n; rw [putL_len]; exact hn)⟩
theorem ADF_lit (hT : TyOK P tt) (y : IV) (hk : kdF o.op = .free) (hw : wantedS fr o = some true)
    (ha : ∀ H, ∃ x obj, aop tt ⟨fr, H⟩ o = some (x, H ++ [some obj]) ∧ SnapC (onlyH [H.length] (H ++ [some obj])) x y) (h : ADF P H0 K (l, putL fr o.dst (.iv y))) : ADF P H0 K (o :: l, fr) := fun n hn => by
  refine ⟨.iv y, H0, none, ?_, h n (by show (putL _ _ _).length ≤ n; rw [putL_len]; exact hn)⟩
  show OpOK P (idB n) o fr H0 H0 (.iv y) H0 (kdF o.op) none
  rw [hk]
  exact .free _ (wanted_iff hn hw) fun H => by
    obtain ⟨x, obj, h1, h2⟩ := ha H
    exact does_lit hT h1 h2
theorem ADF_tells (hT : TyOK P tt) {f : FuncId} {args : Array Operand} {tys : Array TypeId} {d : Option Tmp} {ty : TypeId} {pos : String} {after : Array Edge} {g : Option (Nat × Bool)}
    (hw : wantedS fr ⟨d, .call { callee := .value (.func f), args := args, argTypes := tys }, ty, pos, after, g⟩ = some true) {x : AV} (hc : PF P f (args.toList.map (AS.ev ⟨fr, H0⟩)) fun r H' => r = x ∧ H' = []) (hargs : ∀ a ∈ args.toList.map (AS.ev ⟨fr, H0⟩), Ids 0 a) (hx : ∀ k, x.ren k = x)
    (h : ADF P H0 K (l, putL fr d x)) : ADF P H0 K (⟨d, .call { callee := .value (.func f), args := args, argTypes := tys }, ty, pos, after, g⟩ :: l, fr) := fun n hn =>
  ⟨x, H0, none, .pure _ (wanted_iff hn hw) fun H _ => does_call (.func f) args tys rfl f [] [] rfl (by
    have e : args.toList.map (AS.ev ⟨fr, H⟩) = args.toList.map (AS.ev ⟨fr, H0⟩) := List.map_congr_left fun y _ => by cases y <;> rfl
    simpa [e] using PF.tells (H := H) hargs hx hc), h n (by show (putL _ _ _).length ≤ n; rw [putL_len]; exact hn)⟩
theorem AW_drawG {s : AS} {Q : Exit → AS → Prop} (hT : TyOK P tt) (hm : P.follows .mixedOrders = true) {id : Nat} {ops : List Oper} (l : List Oper) (hl : ops.map (strip (dsts ops)) = l) (hord : ordOK ops.toArray ops.length (alG ops) = true)
    (h : ∀ (K : List AV → AHeap → Prop), (∀ F H', Q .normal ⟨F, H'⟩ → K F H') → ADF P s.H K (l, s.fr)) : AW P (.region id ops.toArray true) Q s :=
  AW_draw hm ops.length (alG ops) hord fun K hK => by
    rw [List.take_length]
    refine ADS_strip (us := []) ?_
    have e : alG ops = alG l := by rw [← hl]; unfold alG; rw [List.map_map]; rfl
    rw [hl, e]
    exact h K fun F H' hy => hK F H' (by rw [List.drop_length]; exact AL_nil hy)
section
variable {s : AS} {Q : Exit → AS → Prop}
end
end
end Go.Proofs.YtdaenbgjafalcaaDoor
