import Derived.Test.YtghdacijcnmhlaaDoorMgAA
import Derived.Laws.CopyRow
import Derived.Laws.Append
import Derived.Laws.AppendOwn
namespace Go.Proofs.YtghdacijcnmhlaaDoor
open Go.RowKit
set_option linter.unusedVariables false
set_option linter.unusedSimpArgs false
def Post (G : Gh) (n : Nat) (Q : Exit → AS → Prop) : Exit → Act → World → Prop := fun e a w => ∃ G' s', Gh.le n G G' ∧ n ≤ s'.H.length ∧ Rst G' s' a w ∧ Q e s'
def AW (P : Program) (c : Code) (Q : Exit → AS → Prop) (s : AS) : Prop := ∀ G a w, Rst G s a w → c.wp P (Post G s.H.length Q) a w
def AL (P : Program) (ops : Array Oper) (rest : List Oper) (Q : Exit → AS → Prop) (s : AS) : Prop := ∀ G a w, Rst G s a w → wpList P ops (Post G s.H.length Q) rest a w
def CallPost (G : Gh) (n : Nat) (Q : AV → AHeap → Prop) : Ending → World → Prop := fun e w' => ∃ v r G' H', e = .returned v ∧ Gh.le n G G' ∧ n ≤ H'.length ∧ Inv G' H' w' ∧ RA H'.length G' r v ∧ Q r H'
def SC (P : Program) (f : FuncId) (args : List AV) (H : AHeap) (Q : AV → AHeap → Prop) : Prop := ∀ G w vs, Inv G H w → RL H.length G args vs → Calls P f vs.toArray w (CallPost G H.length Q)
theorem Post.step {G G' : Gh} {n n' : Nat} {Q : Exit → AS → Prop} {e : Exit} {a : Act} {w : World} (h : Gh.le n G G') (hn : n ≤ n') (p : Post G' n' Q e a w) : Post G n Q e a w := by
  obtain ⟨G2, s2, h1, h2, h3, h4⟩ := p
  exact ⟨G2, s2, h.trans h1 hn, Nat.le_trans hn h2, h3, h4⟩
theorem Post.now {G : Gh} {s : AS} {Q : Exit → AS → Prop} {e : Exit} {a : Act} {w : World} (h : Rst G s a w) (hq : Q e s) : Post G s.H.length Q e a w := ⟨G, s, Gh.le.refl _ _, Nat.le_refl _, h, hq⟩
def thenA (next : AS → Prop) (Q : Exit → AS → Prop) : Exit → AS → Prop
  | .normal, s => next s
  | e, s => Q e s
def inBlockA (id : Nat) (Q : Exit → AS → Prop) : Exit → AS → Prop
  | .exit id', s => if id' = id then Q .normal s else Q (.exit id') s
  | e, s => Q e s
section
variable {P : Program} {Q : Exit → AS → Prop} {s : AS}
theorem AW.mono {c : Code} {Q' : Exit → AS → Prop} (h : AW P c Q s) (hq : ∀ e s, Q e s → Q' e s) : AW P c Q' s := fun G a w hr =>
  wp_mono (h G a w hr) fun e a w ⟨G', s', h1, h2, h3, h4⟩ => ⟨G', s', h1, h2, h3, hq _ _ h4⟩
def AS.ev (s : AS) : Operand → AV
  | .tmp t => s.fr.getD t uD
  | .const v => lt v
  | .global g => lt (.pointer (some ⟨g, 0, none⟩))
  | .func f => .fn f [] []
theorem RL.getD {n : Nat} {G : Gh} {xs : List AV} {vs : List Value} (r : RL n G xs vs) (t : Nat) : RA n G (xs.getD t uD) (vs.getD t undef) := by
  by_cases h : t < xs.length
  · have h' : t < vs.length := by rw [← r.1]; exact h
    have e1 : xs.getD t uD = xs[t] := by simp [List.getD, h]
    have e2 : vs.getD t undef = vs[t] := by simp [List.getD, h']
    rw [e1, e2]
    exact r.2 t _ _ (List.getElem?_eq_getElem h) (List.getElem?_eq_getElem h')
  · have h' : ¬ t < vs.length := by rw [← r.1]; exact h
    have e1 : xs.getD t uD = uD := by simp [List.getD, List.getElem?_eq_none (Nat.le_of_not_lt h)]
    have e2 : vs.getD t undef = undef := by simp [List.getD, List.getElem?_eq_none (Nat.le_of_not_lt h')]
    rw [e1, e2]
    exact .iv _ _ (.lit _)
theorem Rst.ev {G : Gh} {a : Act} {w : World} (h : Rst G s a w) (x : Operand) : RA s.H.length G (s.ev x) (a.eval x) := by
  cases x with
  | tmp t =>
    have := h.fr.getD t
    simp only [AS.ev, Act.eval]
    rw [show a.tmps.getD t undef = a.tmps.toList.getD t undef by simp [Array.getD, List.getD]; split <;> simp_all]
    exact this
  | const v => exact .iv _ _ (.lit _)
  | global g => exact .iv _ _ (.lit _)
  | func f => exact .fn f [] [] [] [] rfl rfl (fun i x v h => by simp at h) (fun i x v h => by simp at h)
theorem RA.lit_inv {n : Nat} {G : Gh} {v u : Value} (h : RA n G (lt v) u) : u = v := by
  cases h with
  | iv _ _ h => cases h; rfl
def AS.put (s : AS) (d : Option Tmp) (v : AV) : List AV := match d with | some d => s.fr.set d v | none => s.fr
def AS.wanted (s : AS) (ops : Array Oper) (o : Oper) : Option Bool :=
  match o.guard with
  | none => some true
  | some (j, want) => match (ops[j]?).bind (·.dst) with
    | none => some false
    | some d => match s.fr[d]? with
      | none => some false
      | some (.iv (.lit (.bool b))) => some (b == want)
      | some (.iv (.lit (.tuple _))) => some false
      | _ => none
theorem Rst.wanted {G : Gh} {a : Act} {w : World} {ops : Array Oper} {o : Oper} {b : Bool} (h : Rst G s a w) (hw : s.wanted ops o = some b) : Region.wanted o (yielded ops a.tmps) = b := by
  unfold AS.wanted at hw
  unfold Region.wanted yielded
  cases hg : o.guard with
  | none => rw [hg] at hw; simpa using hw
  | some jw =>
    obtain ⟨j, want⟩ := jw
    rw [hg] at hw
    dsimp only at hw ⊢
    cases hj : (ops[j]?).bind (·.dst) with
    | none => rw [hj] at hw; simp at hw; simp [← hw]
    | some d =>
      rw [hj] at hw
      dsimp only at hw
      simp only [Option.bind_some]
      cases hf : s.fr[d]? with
      | none =>
        rw [hf] at hw
        have : a.tmps[d]? = none := by
          rw [← Array.getElem?_toList, List.getElem?_eq_none]
          rw [← h.fr.1]
          exact List.getElem?_eq_none_iff.1 hf
        rw [this]; simp at hw; simp [← hw]
      | some x =>
        rw [hf] at hw
        obtain ⟨v, hv, hr⟩ := h.fr.at hf
        rw [Array.getElem?_toList] at hv
        rw [hv]
        split at hw <;> try (cases hw)
        all_goals simp_all
        · have := hr.lit_inv; subst this; first | exact hw | simp_all
        · have := hr.lit_inv; subst this; simp
theorem Rst.put {G G' : Gh} {s' : AHeap} {a : Act} {w w' : World} {x : AV} {v : Value} (h : Rst G s a w) (hle : Gh.le s.H.length G G') (hn : s.H.length ≤ s'.length) (hi : Inv G' s' w') (hx : RA s'.length G' x v) (d : Option Tmp) : Rst G' ⟨s.put d x, s'⟩ (a.put d v) w' := by
  refine ⟨?_, ?_, hi⟩
  · cases d <;> exact h.defers
  · cases d with
    | none => exact h.fr.mono hle hn
    | some d =>
      simp only [AS.put, Act.put, Array.toList_setIfInBounds]
      exact (h.fr.mono hle hn).set d hx
theorem AL_nil {ops : Array Oper} (h : Q .normal s) : AL P ops [] Q s := fun G a w hr => Post.now hr h
def Gives1 (P : Program) (s : AS) (o : Oper) (x : AV) (H' : AHeap) : Prop := ∀ G a w, Rst G s a w → ∃ G' v w', ((execOp a.eval o).run P w = .ok (.value v) w' ∨ ((execOp a.eval o).run P w = .ok .skip w' ∧ v = undef)) ∧ Gh.le s.H.length G G' ∧ s.H.length ≤ H'.length ∧ Inv G' H' w' ∧ RA H'.length G' x v
theorem wpList_mono {ops : Array Oper} {Q Q' : Exit → Act → World → Prop} (hq : ∀ e a w, Q e a w → Q' e a w) : ∀ (l : List Oper) a w, wpList P ops Q l a w → wpList P ops Q' l a w
  | [], a, w, h => hq _ _ _ h
  | o :: l, a, w, h => by
    unfold wpList at h ⊢
    split
    · rename_i hw
      rw [if_pos hw] at h
      rcases h with h | ⟨h, a0, w0, h2⟩
      · refine .inl ?_
        unfold Oper.wp at *
        generalize (execOp a.eval o).run P w = r at *
        cases r with
        | ok n w' =>
          cases n <;> simp only [Oper.upon] at h ⊢ <;>
            first
              | exact wpList_mono hq l _ _ h
              | exact Calls.mono h (fun e w'' he => by cases e <;> first | exact wpList_mono hq l _ _ he | exact hq _ _ _ he | (obtain ⟨a0, w0, he⟩ := he; exact ⟨a0, w0, hq _ _ _ he⟩))
              | exact Rows.mono h (fun _ _ he => wpList_mono hq l _ _ he)
        | halt x w' => cases x <;> simp only [Oper.upon] at h ⊢ <;> first | exact hq _ _ _ h | exact h
      · exact .inr ⟨h, a0, w0, hq _ _ _ h2⟩
    · rename_i hw
      rw [if_neg hw] at h
      exact wpList_mono hq l _ _ h
end
end Go.Proofs.YtghdacijcnmhlaaDoor
namespace Go.Proofs.YtghdacijcnmhlaaDoor
open Go.RowKit
set_option linter.unusedVariables false
set_option linter.unusedSimpArgs false
def Callable (P : Program) (f : FuncId) : Prop := ∃ fn, P.funcs[f]? = some fn ∧ (fn.name == "runtime.NumGoroutine") = false ∧ fn.body.isNone = false
theorem run_enter {P : Program} {f : FuncId} (h : Callable P f) (args : Array Value) (w : World) : (callFunc f args).run P w = .ok (.enter f args) w := by
  obtain ⟨fn, h1, h2, h3⟩ := h
  have h2' : ¬ fn.name = "runtime.NumGoroutine" := by simpa using h2
  have h3' : ¬ fn.body = none := by cases hb : fn.body <;> simp_all
  simp [callFunc, h1, h2', h3']
structure SF (P : Program) (f : FuncId) (args : List AV) (H : AHeap) (Q : AV → AHeap → Prop) : Prop where
  callable : Callable P f
  calls : SC P f args H Q
theorem SF.mono {P : Program} {f : FuncId} {args : List AV} {H : AHeap} {Q Q' : AV → AHeap → Prop} (h : SF P f args H Q) (hq : ∀ r H', Q r H' → Q' r H') : SF P f args H Q' :=
  ⟨h.callable, fun G w vs hi hr => (h.calls G w vs hi hr).mono fun e w' ⟨v, r, G', H', h1, h2, h3, h4, h5, h6⟩ => ⟨v, r, G', H', h1, h2, h3, h4, h5, hq _ _ h6⟩⟩
section
variable {P : Program} {Q : Exit → AS → Prop} {s : AS}
theorem AS.args {G : Gh} {a : Act} {w : World} (h : Rst G s a w) (l : List Operand) : RL s.H.length G (l.map s.ev) (l.map a.eval) := by
  induction l with
  | nil => exact RL.nil _ _
  | cons x l ih => exact RL.cons (h.ev x) ih
def aresult (P : Program) (s : AS) (load : TypeId → AV → Option AV) : ResultVar → Option AV
  | .tmp t => some (s.fr.getD t uD)
  | .cell a t => load t (s.fr.getD a uD)
def LoadOk (P : Program) (H : AHeap) (load : TypeId → AV → Option AV) : Prop := ∀ t x y, load t x = some y → ∀ G w v, Inv G H w → RA H.length G x v → ∃ a u, v = .pointer (some a) ∧ (loadVar t a).run P w = .ok u w ∧ RA H.length G y u
def aresults (P : Program) (fn : Func) (s : AS) (load : TypeId → AV → Option AV) : Option AV :=
  match fn.results.toList with
  | [] => some (.tup [])
  | [r] => aresult P s load r
  | [r1, r2] => (aresult P s load r1).bind fun x => (aresult P s load r2).bind fun y => some (.tup [x, y])
  | [r1, r2, r3] => (aresult P s load r1).bind fun x => (aresult P s load r2).bind fun y => (aresult P s load r3).bind fun z => some (.tup [x, y, z])
  | [r1, r2, r3, r4] => (aresult P s load r1).bind fun x => (aresult P s load r2).bind fun y => (aresult P s load r3).bind fun z => (aresult P s load r4).bind fun u => some (.tup [x, y, z, u])
  | _ => none
def oneResult (a : Act) : ResultVar → Sem Value
  | .tmp t => pure (a.tmps.getD t undef)
  | .cell b t => do loadVar t (← asAddr (a.tmps.getD b undef))
theorem aresult_run {load : TypeId → AV → Option AV} (hl : LoadOk P s.H load) {G : Gh} {a : Act} {w : World} (hr : Rst G s a w) {rv : ResultVar} {x : AV} (h : aresult P s load rv = some x) : ∃ v, (oneResult a rv).run P w = .ok v w ∧ RA s.H.length G x v := by
  have hg : ∀ t, RA s.H.length G (s.fr.getD t uD) (a.tmps.getD t undef) := fun t => by
    rw [show a.tmps.getD t undef = a.tmps.toList.getD t undef by simp [Array.getD, List.getD]; split <;> simp_all]
    exact hr.fr.getD t
  cases rv with
  | tmp t => simp only [aresult, Option.some.injEq] at h; subst h; exact ⟨_, rfl, hg t⟩
  | cell b t =>
    obtain ⟨ad, u, hv, hrun, hx⟩ := hl t _ _ h G w _ hr.inv (hg b)
    exact ⟨u, by simp [oneResult, hv, asAddr, hrun], hx⟩
def packed (vs : List Value) : Value := match vs with | [v] => v | vs => .tuple vs.toArray
theorem results_run {fn : Func} {a : Act} {w : World} (l : List ResultVar) (hl : fn.results.toList = l) (vs : List Value) (hv : l.length = vs.length) (h : ∀ (i : Nat) r v, l[i]? = some r → vs[i]? = some v → (oneResult a r).run P w = .ok v w) :
    (results fn a.tmps).run P w = .ok (packed vs) w := by
  have e : fn.results = l.toArray := by rw [← hl]
  have key : ∀ (l : List ResultVar) (vs : List Value), l.length = vs.length → (∀ (i : Nat) r v, l[i]? = some r → vs[i]? = some v → (oneResult a r).run P w = .ok v w) → (l.mapM (oneResult a)).run P w = .ok vs w := by
    intro l
    induction l with
    | nil => intro vs hv _; rw [List.length_eq_zero_iff.1 hv.symm]; simp
    | cons r l ih =>
      intro vs hv h
      cases vs with
      | nil => simp at hv
      | cons v vs =>
        have h0 := h 0 r v rfl rfl
        have hi := ih vs (by simpa using hv) (fun i r v h1 h2 => h (i + 1) r v (by simpa using h1) (by simpa using h2))
        simp [List.mapM_cons, h0, hi]
  have hm : (fn.results.mapM (oneResult a)).run P w = .ok vs.toArray w := by
    rw [e, List.mapM_toArray]
    simp [key l vs hv h]
  have e2 : results fn a.tmps = (do let vs ← fn.results.mapM (oneResult a); pure (if h : vs.size = 1 then vs[0] else .tuple vs)) := by
    unfold results
    congr 1
  rw [e2]
  simp only [Sem.run_bind]
  rw [hm]
  simp only [Result.andThen_ok, Sem.run_pure]
  congr 1
  clear hv h hm
  match vs with
  | [] => rfl
  | [v] => rfl
  | v1 :: v2 :: vs => simp [packed]
theorem aresults_run {fn : Func} {load : TypeId → AV → Option AV} (hl : LoadOk P s.H load) {G : Gh} {a : Act} {w : World} (hr : Rst G s a w) {x : AV} (h : aresults P fn s load = some x) : ∃ v, (results fn a.tmps).run P w = .ok v w ∧ RA s.H.length G x v := by
  unfold aresults at h
  split at h
  · rename_i hf
    simp only [Option.some.injEq] at h; subst h
    exact ⟨_, results_run [] hf [] rfl (fun i r v h => by simp at h), .tup [] [] rfl (fun i x v h => by simp at h)⟩
  · rename_i r hf
    obtain ⟨v, h1, h2⟩ := aresult_run hl hr h
    exact ⟨_, results_run [r] hf [v] rfl (fun i r' v' e1 e2 => by
      cases i with
      | zero => simp at e1 e2; subst e1 e2; exact h1
      | succ i => simp at e1), h2⟩
  · rename_i r1 r2 hf
    obtain ⟨x1, k1, h⟩ := Option.bind_eq_some_iff.1 h
    obtain ⟨x2, k2, h⟩ := Option.bind_eq_some_iff.1 h
    simp only [Option.some.injEq] at h; subst h
    obtain ⟨v1, a1, b1⟩ := aresult_run hl hr k1
    obtain ⟨v2, a2, b2⟩ := aresult_run hl hr k2
    refine ⟨_, results_run [r1, r2] hf [v1, v2] rfl (fun i r' v' e1 e2 => ?_), .tup [x1, x2] [v1, v2] rfl (RL.cons b1 (RL.cons b2 (RL.nil _ _))).2⟩
    match i with
    | 0 => simp at e1 e2; subst e1 e2; exact a1
    | 1 => simp at e1 e2; subst e1 e2; exact a2
    | i + 2 => simp at e1
  · rename_i r1 r2 r3 hf
    obtain ⟨x1, k1, h⟩ := Option.bind_eq_some_iff.1 h
    obtain ⟨x2, k2, h⟩ := Option.bind_eq_some_iff.1 h
    obtain ⟨x3, k3, h⟩ := Option.bind_eq_some_iff.1 h
    simp only [Option.some.injEq] at h; subst h
    obtain ⟨v1, a1, b1⟩ := aresult_run hl hr k1
    obtain ⟨v2, a2, b2⟩ := aresult_run hl hr k2
    obtain ⟨v3, a3, b3⟩ := aresult_run hl hr k3
    refine ⟨_, results_run [r1, r2, r3] hf [v1, v2, v3] rfl (fun i r' v' e1 e2 => ?_), .tup [x1, x2, x3] [v1, v2, v3] rfl (RL.cons b1 (RL.cons b2 (RL.cons b3 (RL.nil _ _)))).2⟩
    match i with
    | 0 => simp at e1 e2; subst e1 e2; exact a1
    | 1 => simp at e1 e2; subst e1 e2; exact a2
    | 2 => simp at e1 e2; subst e1 e2; exact a3
    | i + 3 => simp at e1
  · rename_i r1 r2 r3 r4 hf
    obtain ⟨x1, k1, h⟩ := Option.bind_eq_some_iff.1 h
    obtain ⟨x2, k2, h⟩ := Option.bind_eq_some_iff.1 h
    obtain ⟨x3, k3, h⟩ := Option.bind_eq_some_iff.1 h
    obtain ⟨x4, k4, h⟩ := Option.bind_eq_some_iff.1 h
    simp only [Option.some.injEq] at h; subst h
    obtain ⟨v1, a1, b1⟩ := aresult_run hl hr k1
    obtain ⟨v2, a2, b2⟩ := aresult_run hl hr k2
    obtain ⟨v3, a3, b3⟩ := aresult_run hl hr k3
    obtain ⟨v4, a4, b4⟩ := aresult_run hl hr k4
    refine ⟨_, results_run [r1, r2, r3, r4] hf [v1, v2, v3, v4] rfl (fun i r' v' e1 e2 => ?_), .tup [x1, x2, x3, x4] [v1, v2, v3, v4] rfl (RL.cons b1 (RL.cons b2 (RL.cons b3 (RL.cons b4 (RL.nil _ _))))).2⟩
    match i with
    | 0 => simp at e1 e2; subst e1 e2; exact a1
    | 1 => simp at e1 e2; subst e1 e2; exact a2
    | 2 => simp at e1 e2; subst e1 e2; exact a3
    | 3 => simp at e1 e2; subst e1 e2; exact a4
    | i + 4 => simp at e1
  · cases h
def bodyA (P : Program) (fn : Func) (load : AHeap → TypeId → AV → Option AV) (Q : AV → AHeap → Prop) : Exit → AS → Prop
  | .normal, s | .ret, s => ∃ r, aresults P fn s (load s.H) = some r ∧ Q r s.H
  | _, _ => False
end
end Go.Proofs.YtghdacijcnmhlaaDoor
namespace Go.Proofs.YtghdacijcnmhlaaDoor
open Go.RowKit
set_option linter.unusedVariables false
set_option linter.unusedSimpArgs false
theorem Inv.fresh {G : Gh} {H : AHeap} {w : World} (h : Inv G H w) : G.fz w.heap.size = none ∧ G.kp w.heap.size = none := by
  constructor
  · cases e : G.fz w.heap.size with
    | none => rfl
    | some x => have := h.fz _ _ e; simp at this
  · cases e : G.kp w.heap.size with
    | none => rfl
    | some x => have := h.kp _ _ e; simp at this
theorem Inv.drew {G : Gh} {H : AHeap} {w : World} (h : Inv G H w) : Inv G H w.drew := ⟨h.os, h.tape, h.output, h.fz, h.kp, h.dom, h.live, h.obj, h.inj⟩
def Gh.more (G : Gh) (n : Nat) (p : Nat × Nat) (k : Nat) : Gh := { G with dom := fun o => o = n ∨ G.dom o, mu := fun o => if o = n then p else G.mu o, sz := fun o => if o = n then k else G.sz o }
theorem Gh.more_le (G : Gh) {m n : Nat} (hm : m ≤ n) (hn : ¬ G.dom n) (p : Nat × Nat) (k : Nat) : Gh.le m G (G.more n p k) :=
  ⟨fun o ho => if_neg (fun e => hn (by rw [← e]; exact ho)), fun o ho => if_neg (fun e => hn (by rw [← e]; exact ho)), fun o ho => .inr ho, fun o ho hd => hd.elim (fun e => by omega) id, fun _ _ h => h, fun _ _ h => h, fun _ _ y _ h => ⟨y, h⟩, rfl, rfl, rfl⟩
theorem Inv.new {G : Gh} {H : AHeap} {w : World} (h : Inv G H w) : ¬ G.dom H.length := fun hd => Nat.lt_irrefl _ (h.dom _ hd)
theorem Inv.extend {G : Gh} {H : AHeap} {w : World} (h : Inv G H w) : Inv G (H ++ [none]) w := by
  have back : ∀ o x, (H ++ [none])[o]? = some (some x) → H[o]? = some (some x) := fun o x e => by
    by_cases ho : o < H.length
    · rwa [List.getElem?_append_left ho] at e
    · have : o = H.length := by have := (List.getElem?_eq_some_iff.1 e).1; simp at this; omega
      subst this; simp at e
  exact ⟨h.os, h.tape, h.output, h.fz, h.kp, fun o ho => by have := h.dom o ho; simp; omega, fun o x e => h.live o x (back o x e), fun o x e => (h.obj o x (back o x e)).imp id fun ⟨k0, cs, k1, k2, k3, k4⟩ => ⟨k0, cs, k1, k2, k3.mono (Gh.le.refl 0 G) (by simp), k4⟩, fun o o' x x' e e' => h.inj o o' x x' (back o x e) (back o' x' e')⟩
theorem heap_push_lt {w : World} {b : Nat} (o : Obj) (h : b < w.heap.size) : (w.alloc o).heap[b]? = w.heap[b]? := Below.heap_alloc w o b h
theorem lt_of_heap {w : World} {b : Nat} {x : Obj} (h : w.heap[b]? = some x) : b < w.heap.size := (Array.getElem?_eq_some_iff.1 h).1
theorem Inv.allocAt {G : Gh} {H : AHeap} {w : World} (h : Inv G H w) {q : Nat} (hq : q < H.length) (hnd : ¬ G.dom q) (t : TypeId) (xs : List AV) (cs : Array Value) (hx : RL H.length G xs (cs.toList.take xs.length)) (h1 : xs.all AV.one = true) :
    Inv (G.more q (w.heap.size, 0) cs.size) (H.set q (some ⟨t, xs⟩)) (w.alloc (.cells cs t)) := by
  have hle := G.more_le (Nat.zero_le q) hnd (w.heap.size, 0) cs.size
  have hm : (G.more q (w.heap.size, 0) cs.size).mu q = (w.heap.size, 0) := if_pos rfl
  have hs : (G.more q (w.heap.size, 0) cs.size).sz q = cs.size := if_pos rfl
  have hmu : ∀ o, o ≠ q → (G.more q (w.heap.size, 0) cs.size).mu o = G.mu o := fun o ho => if_neg ho
  have hsz : ∀ o, o ≠ q → (G.more q (w.heap.size, 0) cs.size).sz o = G.sz o := fun o ho => if_neg ho
  have hl : (H.set q (some ⟨t, xs⟩)).length = H.length := List.length_set
  have split1 : ∀ o x, (H.set q (some ⟨t, xs⟩))[o]? = some (some x) → (o = q ∧ x = ⟨t, xs⟩) ∨ (o ≠ q ∧ H[o]? = some (some x)) := fun o x e => by
    by_cases ho : o = q
    · subst ho
      rw [List.getElem?_set_self hq] at e
      simp only [Option.some.injEq] at e
      exact .inl ⟨rfl, e.symm⟩
    · rw [List.getElem?_set_ne (Ne.symm ho)] at e; exact .inr ⟨ho, e⟩
  refine ⟨h.os, h.tape, h.output, fun b x e => ?_, fun b x e => ?_, fun o ho => ?_, fun o x e => ?_, fun o x e => ?_, fun o o' x x' e e' hne hz hz' => ?_⟩
  · rw [heap_push_lt _ (lt_of_heap (h.fz b x e))]; exact h.fz b x e
  · rw [heap_push_lt _ (lt_of_heap (h.kp b x e))]; exact h.kp b x e
  · rw [hl]
    rcases ho with rfl | ho
    · exact hq
    · exact h.dom o ho
  · rcases split1 o x e with ⟨rfl, _⟩ | ⟨_, e⟩
    · exact .inl rfl
    · exact .inr (h.live o x e)
  · rw [hl]
    rcases split1 o x e with ⟨rfl, rfl⟩ | ⟨hoq, e⟩
    · rw [hs]
      by_cases h0 : cs.size = 0
      · refine .inl ⟨?_, h0⟩
        have := hx.1
        simp only [List.length_take, Array.length_toList, h0] at this
        have h9 : xs.length = 0 := by omega
        exact List.length_eq_zero_iff.1 h9
      · refine .inr ⟨h0, cs, ?_⟩
        rw [hm, hs]
        refine ⟨heap_alloc_new w _, rfl, ?_, h1, h.fresh.1, h.fresh.2⟩
        simp only [List.drop_zero]
        exact hx.mono hle (Nat.le_refl _)
    · rw [hsz o hoq]
      refine (h.obj o x e).imp id fun ⟨k0, cs', k1, k2, k3, k4, k5, k6⟩ => ⟨k0, cs', ?_⟩
      rw [hmu o hoq, hsz o hoq]
      exact ⟨by rw [heap_push_lt _ (lt_of_heap k1)]; exact k1, k2, k3.mono hle (Nat.le_refl _), k4, k5, k6⟩
  · have f0 := split1 o x e
    have f1 := split1 o' x' e'
    clear e e'
    rcases f0 with ⟨rfl, rfl⟩ | ⟨hoq, e⟩ <;> rcases f1 with ⟨rfl, rfl⟩ | ⟨hoq', e'⟩
    · exact absurd rfl hne
    · rw [hsz o' hoq'] at hz'
      obtain ⟨_, cs', k1, _⟩ := (h.obj o' x' e').resolve_left fun q => hz' q.2
      rw [hm, hmu o' hoq']
      have := lt_of_heap k1; dsimp only; omega
    · rw [hsz o hoq] at hz
      obtain ⟨_, cs', k1, _⟩ := (h.obj o x e).resolve_left fun q => hz q.2
      rw [hm, hmu o hoq]
      have := lt_of_heap k1; dsimp only; omega
    · rw [hsz o hoq] at hz; rw [hsz o' hoq'] at hz'
      rw [hmu o hoq, hmu o' hoq']
      exact h.inj o o' x x' e e' hne hz hz'
theorem Inv.alloc {G : Gh} {H : AHeap} {w : World} (h : Inv G H w) (t : TypeId) (xs : List AV) (cs : Array Value) (hx : RL H.length G xs (cs.toList.take xs.length)) (h1 : xs.all AV.one = true) :
    Inv (G.more H.length (w.heap.size, 0) cs.size) (H ++ [some ⟨t, xs⟩]) (w.alloc (.cells cs t)) := by
  have := h.extend.allocAt (q := H.length) (by simp) h.new t xs cs (hx.mono (Gh.le.refl H.length G) (by simp)) h1
  have e : (H ++ [none]).set H.length (some ⟨t, xs⟩) = H ++ [some ⟨t, xs⟩] := by rw [List.set_append_right _ _ (Nat.le_refl _)]; simp
  rwa [e] at this
theorem Inv.row {G : Gh} {H : AHeap} {w : World} (h : Inv G H w) {o : Nat} {x : AObj} (ho : H[o]? = some (some x)) (hreal : G.sz o ≠ 0) (xs : List AV) (cs : Array Value) (hs : cs.size = G.sz o) (hx : RL H.length G xs ((cs.toList.drop (G.mu o).2).take xs.length)) (h1 : xs.all AV.one = true) :
    Inv G (H.set o (some ⟨x.t, xs⟩)) (w.setRow (G.mu o).1 cs) := by
  obtain ⟨_, cs0, k1, k2, k3, k4, k5, k6⟩ := (h.obj o x ho).resolve_left fun q => hreal q.2
  have hset : ∀ b, (w.setRow (G.mu o).1 cs).heap[b]? = if b = (G.mu o).1 then some (.cells cs x.t (0, 0)) else w.heap[b]? := fun b => by
    have hlt := lt_of_heap k1
    have hget : w.heap[(G.mu o).1] = .cells cs0 x.t (0, 0) := by rw [Array.getElem?_eq_getElem hlt] at k1; exact Option.some.inj k1
    simp only [World.setRow, Array.getElem?_modify]
    by_cases hb : b = (G.mu o).1
    · subst hb; simp [k1]
    · rw [if_neg (fun e => hb e.symm), if_neg hb]
  have hne : ∀ b y, G.fz b = some y ∨ G.kp b = some y → b ≠ (G.mu o).1 := fun b y e hb => by
    subst hb
    rcases e with e | e
    · rw [k5] at e; cases e
    · rw [k6] at e; cases e
  have hlen : (H.set o (some ⟨x.t, xs⟩)).length = H.length := List.length_set
  have holt : o < H.length := (List.getElem?_eq_some_iff.1 ho).1
  have back : ∀ q z, (H.set o (some ⟨x.t, xs⟩))[q]? = some (some z) → ∃ z', H[q]? = some (some z') := fun q z hq => by
    by_cases hq2 : q = o
    · subst hq2; exact ⟨x, ho⟩
    · rw [List.getElem?_set_ne (Ne.symm hq2)] at hq; exact ⟨z, hq⟩
  refine ⟨h.os, h.tape, h.output, fun b y e => ?_, fun b y e => ?_, fun q hq => by rw [hlen]; exact h.dom q hq, fun q z e => by obtain ⟨z', hz'⟩ := back q z e; exact h.live q z' hz', fun o' y e => ?_, fun o1 o2 y y' e e' hne' => ?_⟩
  · rw [hset, if_neg (hne b y (.inl e))]; exact h.fz b y e
  · rw [hset, if_neg (hne b y (.inr e))]; exact h.kp b y e
  · rw [hlen]
    by_cases hoo : o' = o
    · subst hoo
      rw [List.getElem?_set_self holt] at e
      simp only [Option.some.injEq] at e; subst e
      exact .inr ⟨hreal, cs, by rw [hset, if_pos rfl], hs, hx, h1, k5, k6⟩
    · rw [List.getElem?_set_ne (Ne.symm hoo)] at e
      exact (h.obj o' y e).imp id fun ⟨m0, cs', m1, m2, m3, m4, m5, m6⟩ => ⟨m0, cs', by rw [hset, if_neg (h.inj o' o y x e ho hoo m0 hreal)]; exact m1, m2, m3, m4, m5, m6⟩
  · obtain ⟨z, hz⟩ := back o1 y e
    obtain ⟨z', hz'⟩ := back o2 y' e'
    exact h.inj o1 o2 z z' hz hz' hne'
theorem Inv.forget {G : Gh} {H : AHeap} {w : World} (h : Inv G H w) (o : Nat) : Inv G (H.set o none) w := by
  have back : ∀ q z, (H.set o none)[q]? = some (some z) → H[q]? = some (some z) := fun q z hq => by
    by_cases hq2 : o = q
    · subst hq2
      by_cases hlt : o < H.length
      · rw [List.getElem?_set_self hlt] at hq; simp at hq
      · rw [List.getElem?_eq_none (by simp; omega)] at hq; cases hq
    · rwa [List.getElem?_set_ne hq2] at hq
  refine ⟨h.os, h.tape, h.output, h.fz, h.kp, fun q hq => by rw [List.length_set]; exact h.dom q hq, fun q z hq => h.live q z (back q z hq), fun q z hq => ?_, fun a b y z e1 e2 => h.inj a b y z (back a y e1) (back b z e2)⟩
  exact (h.obj q z (back q z hq)).imp id fun ⟨k0, cs, k1, k2, k3, k4⟩ => ⟨k0, cs, k1, k2, by rw [List.length_set]; exact k3, k4⟩
theorem Inv.rename {G : Gh} {H : AHeap} {w : World} (h : Inv G H w) {o : Nat} {x : AObj} (ho : H[o]? = some (some x)) (hreal : G.sz o ≠ 0) (off : Nat) (xs : List AV) (hx : ∀ cs : Array Value, w.heap[(G.mu o).1]? = some (.cells cs x.t (0, 0)) → RL H.length G xs ((cs.toList.drop ((G.mu o).2 + off)).take xs.length)) (h1 : xs.all AV.one = true) :
    Inv (G.more H.length ((G.mu o).1, (G.mu o).2 + off) (G.sz o)) (H.set o none ++ [some ⟨x.t, xs⟩]) w := by
  obtain ⟨_, cs0, k1, k2, k3, k4, k5, k6⟩ := (h.obj o x ho).resolve_left fun q => hreal q.2
  have hle := G.more_le (Nat.le_refl H.length) h.new ((G.mu o).1, (G.mu o).2 + off) (G.sz o)
  have hmu : ∀ q, q < H.length → (G.more H.length ((G.mu o).1, (G.mu o).2 + off) (G.sz o)).mu q = G.mu q := fun q hq => if_neg (by omega)
  have hsz : ∀ q, q < H.length → (G.more H.length ((G.mu o).1, (G.mu o).2 + off) (G.sz o)).sz q = G.sz q := fun q hq => if_neg (by omega)
  have hm : (G.more H.length ((G.mu o).1, (G.mu o).2 + off) (G.sz o)).mu H.length = ((G.mu o).1, (G.mu o).2 + off) := if_pos rfl
  have hs : (G.more H.length ((G.mu o).1, (G.mu o).2 + off) (G.sz o)).sz H.length = G.sz o := if_pos rfl
  have hl : (H.set o none).length = H.length := List.length_set
  have back : ∀ q z, q < H.length → (H.set o none ++ [some ⟨x.t, xs⟩])[q]? = some (some z) → H[q]? = some (some z) ∧ q ≠ o := fun q z hlt hq => by
    rw [List.getElem?_append_left (by omega)] at hq
    by_cases hq2 : o = q
    · subst hq2; rw [List.getElem?_set_self hlt] at hq; simp at hq
    · rw [List.getElem?_set_ne hq2] at hq; exact ⟨hq, Ne.symm hq2⟩
  have last : ∀ q z, ¬ q < H.length → (H.set o none ++ [some ⟨x.t, xs⟩])[q]? = some (some z) → q = H.length ∧ z = ⟨x.t, xs⟩ := fun q z hlt hq => by
    have := (List.getElem?_eq_some_iff.1 hq).1
    simp at this
    have e : q = H.length := by omega
    subst e
    rw [List.getElem?_append_right (by omega)] at hq
    simp at hq
    exact ⟨rfl, hq.symm⟩
  refine ⟨h.os, h.tape, h.output, h.fz, h.kp, fun q hq => ?_, fun q z hq => ?_, fun q z hq => ?_, fun a b y z e1 e2 hne => ?_⟩
  · rcases hq with rfl | hq
    · simp
    · have := h.dom q hq; simp; omega
  · by_cases hlt : q < H.length
    · exact .inr (h.live q z (back q z hlt hq).1)
    · exact .inl (last q z hlt hq).1
  · by_cases hlt : q < H.length
    · obtain ⟨hq', _⟩ := back q z hlt hq
      rw [hsz q hlt]
      refine (h.obj q z hq').imp id fun ⟨m0, cs', m1, m2, m3, m4, m5, m6⟩ => ⟨m0, cs', ?_⟩
      rw [hmu q hlt, hsz q hlt]
      exact ⟨m1, m2, m3.mono hle (by simp), m4, m5, m6⟩
    · obtain ⟨rfl, rfl⟩ := last q z hlt hq
      rw [hs]
      refine .inr ⟨hreal, cs0, ?_⟩
      rw [hm, hs]
      exact ⟨k1, k2, (hx cs0 k1).mono hle (by simp), h1, k5, k6⟩
  · intro hz hz'
    by_cases ha : a < H.length <;> by_cases hb : b < H.length
    · obtain ⟨p1, _⟩ := back a y ha e1; obtain ⟨p2, _⟩ := back b z hb e2
      rw [hsz a ha] at hz; rw [hsz b hb] at hz'; rw [hmu a ha, hmu b hb]; exact h.inj a b y z p1 p2 hne hz hz'
    · obtain ⟨rfl, _⟩ := last b z hb e2; obtain ⟨p1, p2⟩ := back a y ha e1
      rw [hsz a ha] at hz; rw [hm, hmu a ha]; exact h.inj a o y x p1 ho p2 hz hreal
    · obtain ⟨rfl, _⟩ := last a y ha e1; obtain ⟨p1, p2⟩ := back b z hb e2
      rw [hsz b hb] at hz'; rw [hm, hmu b hb]; exact fun e => h.inj b o z x p1 ho p2 hz' hreal e.symm
    · have := (last a y ha e1).1; have := (last b z hb e2).1; omega
inductive IdsP (S : Nat → Prop) : AV → Prop
  | iv (x : IV) : IdsP S (.iv x)
  | agg (xs : List AV) : (∀ (i : Nat) (x : AV), xs[i]? = some x → IdsP S x) → IdsP S (.agg xs)
  | tup (xs : List AV) : (∀ (i : Nat) (x : AV), xs[i]? = some x → IdsP S x) → IdsP S (.tup xs)
  | osl (o off len sz : Nat) : S o → IdsP S (.osl o off len sz)
  | optr (o off : Nat) : S o → IdsP S (.optr o off)
  | xptr (o sz : Nat) : S o → IdsP S (.xptr o sz)
  | fn (f : FuncId) (first caps : List AV) : (∀ (i : Nat) (x : AV), first[i]? = some x → IdsP S x) → (∀ (i : Nat) (x : AV), caps[i]? = some x → IdsP S x) → IdsP S (.fn f first caps)
theorem at_of_len {α β : Type} {xs : List α} {ys : List β} (h : xs.length = ys.length) {i : Nat} {x : α} (e : xs[i]? = some x) : ∃ y, ys[i]? = some y := by
  have hi := (List.getElem?_eq_some_iff.1 e).1
  exact ⟨ys[i]'(by omega), List.getElem?_eq_getElem (by omega)⟩
def Gh.swap (G : Gh) (n q : Nat) : Gh := { G with dom := fun o => o = q ∨ (o ≠ n ∧ G.dom o), mu := fun o => if o = q then G.mu n else G.mu o, sz := fun o => if o = q then G.sz n else G.sz o }
theorem oneCell_of {n : Nat} {G : Gh} {x : AV} {v : Value} (h : RA n G x v) (h1 : x.one = true) : v.oneCell' = true := by
  cases h with
  | iv x v hr => cases hr <;> first | rfl | (cases v <;> first | rfl | (simp [AV.one] at h1))
  | agg => simp [AV.one] at h1
  | tup => simp [AV.one] at h1
  | osl => rfl
  | onil => rfl
  | optr => rfl
  | xptr => rfl
  | fn => rfl
theorem RL.oneCells {n : Nat} {G : Gh} {xs : List AV} {vs : List Value} (h : RL n G xs vs) (h1 : xs.all AV.one = true) : ∀ u ∈ vs, u.oneCell' = true := fun u hu => by
  obtain ⟨i, hi⟩ := List.mem_iff_getElem?.1 hu
  obtain ⟨x, hx, hr⟩ := h.at_back hi
  exact oneCell_of hr (by rw [List.all_eq_true] at h1; exact h1 x (List.mem_iff_getElem?.2 ⟨i, hx⟩))
end Go.Proofs.YtghdacijcnmhlaaDoor
namespace Go.Proofs.YtghdacijcnmhlaaDoor
open Go.RowKit
set_option linter.unusedVariables false
set_option linter.unusedSimpArgs false
inductive TyKind where
  | sl (e : Nat) | arr (n e : Nat) | st (fs : List (Nat × Nat)) | ptr (e : Nat) | int (k : IntKind) | bool | str | map (k v : Nat) | other
def kindOf : TypeDesc → TyKind
  | .slice e => .sl e
  | .array n e => .arr n e
  | .struct fs => .st (fs.toList.map fun f => (f.type, f.offset))
  | .pointer e => .ptr e
  | .int k => .int k
  | .bool => .bool
  | .string => .str
  | .map k v => .map k v
  | _ => .other
def TyKind.agg : TyKind → Bool
  | .st _ | .arr _ _ => true
  | _ => false
structure TyRow where
  kind : TyKind
  size : Nat
  bytes : Nat
  zero : List Value
def tyRow (P : Program) (t : Nat) : Option TyRow :=
  match P.info? t, P.underlying t with
  | some i, some d => match i.zero with
    | some z => some ⟨kindOf d, i.size, i.bytes, z.cells.toList⟩
    | none => none
  | _, _ => none
abbrev TT := Nat → Option TyRow
def TyOK (P : Program) (tt : TT) : Prop := ∀ t r, tt t = some r → tyRow P t = some r
section
variable {P : Program} {tt : TT}
theorem TyOK.row (h : TyOK P tt) {t : Nat} {r : TyRow} (e : tt t = some r) : ∃ i d z, P.info? t = some i ∧ P.underlying t = some d ∧ i.zero = some z ∧ r = ⟨kindOf d, i.size, i.bytes, z.cells.toList⟩ := by
  have h := h t r e
  unfold tyRow at h
  split at h
  · rename_i i d hi hd
    split at h
    · rename_i z hz
      exact ⟨i, d, z, hi, hd, hz, (Option.some.inj h).symm⟩
    · cases h
  · cases h
theorem kind_sl {d : TypeDesc} {e : Nat} (h : kindOf d = .sl e) : d = .slice e := by cases d <;> simp [kindOf] at h; rw [h]
theorem kind_arr {d : TypeDesc} {n e : Nat} (h : kindOf d = .arr n e) : d = .array n e := by cases d <;> simp [kindOf] at h; rw [h.1, h.2]
theorem kind_st {d : TypeDesc} {l : List (Nat × Nat)} (h : kindOf d = .st l) : ∃ fs : Array Field, d = .struct fs ∧ l = fs.toList.map fun f => (f.type, f.offset) := by cases d <;> simp [kindOf] at h; exact ⟨_, rfl, h.symm⟩
theorem kind_int {d : TypeDesc} {k : IntKind} (h : kindOf d = .int k) : d = .int k := by cases d <;> simp [kindOf] at h; rw [h]
theorem kind_bool {d : TypeDesc} (h : kindOf d = .bool) : d = .bool := by cases d <;> simp [kindOf] at h; rfl
theorem kind_str {d : TypeDesc} (h : kindOf d = .str) : d = .string := by cases d <;> simp [kindOf] at h; rfl
theorem isAgg_run {t : Nat} {d : TypeDesc} (h : P.underlying t = some d) (w : World) : (isAgg t).run P w = .ok (kindOf d).agg w := by
  unfold isAgg
  rw [Sem.run_bind, run_underlying h]
  cases d <;> rfl
theorem sizeOf_run {t : Nat} {i : TypeInfo} (h : P.info? t = some i) (w : World) : (sizeOf t).run P w = .ok i.size w := by simp [sizeOf, typeInfo, h]
def aload (tt : TT) (H : AHeap) (t : Nat) (x : AV) : Option AV :=
  match tt t with
  | none => none
  | some r =>
    match x with
    | .optr o off => match H[o]? with
      | some (some obj) => if r.kind.agg = true then (if ((obj.cells.drop off).take r.size).length = r.size then some (.agg ((obj.cells.drop off).take r.size)) else none) else obj.cells[off]?
      | _ => none
    | .iv (.ptr get ext) => if r.kind.agg = true then (if r.size ≤ ext ∧ ((List.range r.size).map (fun j => AV.iv (get j))).all AV.one = true then some (.agg ((List.range r.size).map fun j => .iv (get j))) else none) else if 0 < ext then some (.iv (get 0)) else none
    | _ => none
theorem cell_of_heap {w : World} {b i : Nat} {cs : Array Value} {t : TypeId} {fr : Nat × Nat} (h : w.heap[b]? = some (.cells cs t fr)) : w.cell? ⟨b, i, none⟩ = cs[i]? := by simp [World.cell?, h]
theorem RL.cell {n : Nat} {G : Gh} {xs : List AV} {l : List Value} {base : Nat} (h : RL n G xs ((l.drop base).take xs.length)) {off : Nat} {x : AV} (e : xs[off]? = some x) : ∃ v, l[base + off]? = some v ∧ RA n G x v := by
  obtain ⟨v, hv, hr⟩ := h.at e
  have hlt := (List.getElem?_eq_some_iff.1 e).1
  rw [List.getElem?_take_of_lt hlt, List.getElem?_drop] at hv
  exact ⟨v, hv, hr⟩
theorem add_addr (b o n : Nat) : Addr.add ⟨b, o, none⟩ n = ⟨b, o + n, none⟩ := Addr.add_lit b o n
theorem loadVar_agg {t : Nat} {i : TypeInfo} {d : TypeDesc} {w : World} {b o : Nat} (hi : P.info? t = some i) (hd : P.underlying t = some d) (ha : (kindOf d).agg = true) (vs : List Value) (hl : vs.length = i.size) (h : ∀ j v, vs[j]? = some v → w.cell? ⟨b, o + j, none⟩ = some v) :
    (loadVar t ⟨b, o, none⟩).run P w = .ok (.agg vs.toArray) w := by
  have hc := run_loadCells_list (P := P) w ⟨b, o, none⟩ vs (fun j v e => by rw [add_addr]; exact h j v e)
  unfold loadVar
  simp only [Sem.run_bind, isAgg_run hd, Result.andThen_ok, ha, if_true, sizeOf_run hi, ← hl, hc, Sem.run_pure]
theorem loadVar_one {t : Nat} {d : TypeDesc} {w : World} {a : Addr} {v : Value} (hd : P.underlying t = some d) (ha : (kindOf d).agg = false) (h : w.cell? a = some v) : (loadVar t a).run P w = .ok v w := by
  unfold loadVar
  simp only [Sem.run_bind, isAgg_run hd, Result.andThen_ok, ha, Bool.false_eq_true, if_false, run_load, h]
theorem all_take {xs : List AV} (h : xs.all AV.one = true) (a b : Nat) : ((xs.drop a).take b).all AV.one = true := by
  rw [List.all_eq_true] at *
  exact fun x hx => h x (List.mem_of_mem_drop (List.mem_of_mem_take hx))
theorem aload_ok (hT : TyOK P tt) (H : AHeap) : LoadOk P H (aload tt H) := by
  intro t x y h G w v hi hr
  unfold aload at h
  split at h
  · cases h
  · rename_i r ht
    obtain ⟨i, d, z, hin, hd, hz, rfl⟩ := hT.row ht
    cases hr with
    | optr o off hlt =>
      dsimp only at h
      split at h
      · rename_i obj ho
        refine ⟨⟨(G.mu o).1, (G.mu o).2 + off, none⟩, ?_⟩
        by_cases hcel : obj.cells = []
        · rw [hcel] at h
          split at h
          · rename_i hag
            split at h
            · rename_i hl
              have h0 : i.size = 0 := by simpa using hl.symm
              simp only [Option.some.injEq] at h; subst h
              refine ⟨_, rfl, loadVar_agg hin hd hag [] (by simp [h0]) (fun j u e => by simp at e), ?_⟩
              exact .agg _ _ (by simp) (fun i x v e => by simp at e) (by simp)
            · cases h
          · simp at h
        obtain ⟨_, cs, k1, k2, k3, k4, _⟩ := hi.real ho hcel
        split at h
        · rename_i hag
          split at h
          · rename_i hl
            simp only [Option.some.injEq] at h; subst h
            have hvl : ((((cs.toList.drop (G.mu o).2).take obj.cells.length).drop off).take i.size).length = i.size := by
              have := ((k3.drop off).take i.size).1; rw [← this]; exact hl
            refine ⟨_, rfl, loadVar_agg hin hd hag _ hvl (fun j u e => ?_), ?_⟩
            · rw [List.getElem?_take, List.getElem?_drop, List.getElem?_take, List.getElem?_drop] at e
              split at e
              · split at e
                · rw [cell_of_heap k1, ← Array.getElem?_toList, ← e]; congr 1; omega
                · cases e
              · cases e
            · exact .agg _ _ ((k3.drop off).take _).1 ((k3.drop off).take _).2 (all_take k4 _ _)
          · cases h
        · rename_i hag
          obtain ⟨u, e, hu⟩ := k3.cell h
          exact ⟨u, rfl, loadVar_one hd (by simpa using hag) (by rw [cell_of_heap k1, ← Array.getElem?_toList]; exact e), hu⟩
      · cases h
    | iv x v hv =>
      dsimp only at h
      split at h
      · rename_i e; cases e
      · rename_i get ext e
        simp only [AV.iv.injEq] at e; subst e
        cases hv with
        | ptr _ _ b off cs t' fr vs h1 h2 h3 =>
          have hh := hi.fz _ _ h1
          refine ⟨⟨b, off, none⟩, ?_⟩
          split at h
          · rename_i hag
            split at h
            · rename_i hc
              simp only [Option.some.injEq] at h; subst h
              refine ⟨.agg ((List.range i.size).map vs).toArray, rfl, loadVar_agg hin hd hag _ (by simp) (fun j u e => ?_), ?_⟩
              · rw [List.getElem?_map] at e
                obtain ⟨q, hq, rfl⟩ := Option.map_eq_some_iff.1 e
                have hj : j < i.size ∧ q = j := by
                  rcases Nat.lt_or_ge j i.size with hlt | hge
                  · rw [List.getElem?_range hlt] at hq; simp at hq; omega
                  · rw [List.getElem?_eq_none (by simp; omega)] at hq; cases hq
                obtain ⟨hj, rfl⟩ := hj
                rw [cell_of_heap hh]; exact h2 _ (by omega)
              · refine .agg _ _ (by simp) (fun j x u e1 e2 => ?_) hc.2
                rw [List.getElem?_map] at e1 e2
                obtain ⟨q, hq, rfl⟩ := Option.map_eq_some_iff.1 e1
                rw [hq] at e2
                simp only [Option.map_some, Option.some.injEq] at e2; subst e2
                have hq' := List.mem_range.1 (List.mem_iff_getElem?.2 ⟨j, hq⟩)
                exact .iv _ _ (h3 q (by omega))
            · cases h
          · rename_i hag
            split at h
            · rename_i hpos
              simp only [Option.some.injEq] at h; subst h
              exact ⟨vs 0, rfl, loadVar_one hd (by simpa using hag) (by rw [cell_of_heap hh]; have := h2 0 hpos; simpa using this), .iv _ _ (h3 0 hpos)⟩
            · cases h
      · cases h
    | _ => cases h
end
end Go.Proofs.YtghdacijcnmhlaaDoor
