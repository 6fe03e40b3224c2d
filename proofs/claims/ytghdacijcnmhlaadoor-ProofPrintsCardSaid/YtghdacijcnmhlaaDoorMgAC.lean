import Derived.Test.YtghdacijcnmhlaaDoorMgAB
import Derived.Laws.Cover3
namespace Go.Proofs.YtghdacijcnmhlaaDoor
open Go.RowKit
set_option linter.unusedVariables false
set_option linter.unusedSimpArgs false
section
variable {P : Program} {tt : TT} {s : AS} {o : Oper}
theorem Gives1.same {x : AV} (h : ∀ G a w, Rst G s a w → ∃ v, (execOp a.eval o).run P w = .ok (.value v) w ∧ RA s.H.length G x v) : Gives1 P s o x s.H := fun G a w hr => by
  obtain ⟨v, h1, h2⟩ := h G a w hr
  exact ⟨G, v, w, .inl h1, Gh.le.refl _ _, Nat.le_refl _, hr.inv, h2⟩
def acells : AV → List AV
  | .agg xs => xs
  | .iv (.lit (.agg cs)) => cs.toList.map lt
  | x => [x]
theorem RL.lits (n : Nat) (G : Gh) (l : List Value) : RL n G (l.map lt) l := by
  induction l with
  | nil => exact RL.nil _ _
  | cons v l ih => exact RL.cons (.iv _ _ (.lit _)) ih
theorem RA.cells {n : Nat} {G : Gh} {x : AV} {v : Value} (h : RA n G x v) : RL n G (acells x) v.cells.toList := by
  cases h with
  | agg xs vs h1 h2 h3 => exact ⟨h1, h2⟩
  | tup xs vs h1 h2 => exact RL.cons (.tup xs vs h1 h2) (RL.nil _ _)
  | osl o off len sz b a cap h1 h2 h3 h4 h5 h6 => exact RL.cons (.osl o off len sz b a cap h1 h2 h3 h4 h5 h6) (RL.nil _ _)
  | onil o off sz h1 => exact RL.cons (.onil o off sz h1) (RL.nil _ _)
  | optr o off h1 => exact RL.cons (.optr o off h1) (RL.nil _ _)
  | xptr o sz h1 h2 h3 => exact RL.cons (.xptr o sz h1 h2 h3) (RL.nil _ _)
  | fn f first caps vs us h1 h2 h3 h4 => exact RL.cons (.fn f first caps vs us h1 h2 h3 h4) (RL.nil _ _)
  | iv x v hr =>
    cases hr with
    | lit v =>
      cases v with
      | agg cs => exact RL.lits _ _ _
      | _ => exact RL.cons (.iv _ _ (.lit _)) (RL.nil _ _)
    | nil get sz cap hc => exact RL.cons (.iv _ _ (.nil get sz cap hc)) (RL.nil _ _)
    | empty get sz a cap hc => exact RL.cons (.iv _ _ (.empty get sz a cap hc)) (RL.nil _ _)
    | sl get len sz b off cap cs t fr vs h1 h2 h3 h4 h5 => exact RL.cons (.iv _ _ (.sl get len sz b off cap cs t fr vs h1 h2 h3 h4 h5)) (RL.nil _ _)
    | ptr get ext b off cs t fr vs h1 h2 h3 => exact RL.cons (.iv _ _ (.ptr get ext b off cs t fr vs h1 h2 h3)) (RL.nil _ _)
theorem take_self {α : Type} (l : List α) {n : Nat} (h : n = l.length) : l.take n = l := by subst h; simp
theorem Gives1.newObj {t : TypeId} {xs : List AV} (h1 : xs.all AV.one = true)
    (h : ∀ G a w, Rst G s a w → ∃ cs : Array Value, (execOp a.eval o).run P w = .ok (.value (.pointer (some ⟨w.heap.size, 0, none⟩))) (w.alloc (.cells cs t)) ∧ RL s.H.length G xs cs.toList) :
    Gives1 P s o (.optr s.H.length 0) (s.H ++ [some ⟨t, xs⟩]) := fun G a w hr => by
  obtain ⟨cs, h2, h3⟩ := h G a w hr
  refine ⟨_, _, _, .inl h2, G.more_le (Nat.le_refl _) hr.inv.new _ _, by simp, hr.inv.alloc t xs cs (by rw [take_self _ h3.1]; exact h3) h1, ?_⟩
  have := RA.optr (n := (s.H ++ [some (AObj.mk t xs)]).length) (G := G.more s.H.length (w.heap.size, 0) cs.size) s.H.length 0 (.inl rfl)
  simpa [Gh.more] using this
def abox (H : AHeap) (t : TypeId) (xs : List AV) : Option (AV × AHeap) := if xs.all AV.one = true then some (.optr H.length 0, H ++ [some ⟨t, xs⟩]) else none
theorem abox_ok {t : TypeId} {xs : List AV} {x : AV} {H' : AHeap} (e : abox s.H t xs = some (x, H'))
    (h : ∀ G a w, Rst G s a w → ∃ cs : Array Value, (execOp a.eval o).run P w = .ok (.value (.pointer (some ⟨w.heap.size, 0, none⟩))) (w.alloc (.cells cs t)) ∧ RL s.H.length G xs cs.toList) : Gives1 P s o x H' := by
  unfold abox at e
  split at e
  · rename_i h1
    simp only [Option.some.injEq, Prod.mk.injEq] at e
    obtain ⟨rfl, rfl⟩ := e
    exact Gives1.newObj h1 h
  · cases e
theorem newVar_run (t : TypeId) (v : Value) (w : World) : (newVar t v).run P w = .ok ⟨w.heap.size, 0, none⟩ (w.alloc (.cells v.cells t)) := by
  simp only [newVar, newRow, Sem.run_bind, run_newObj, Result.andThen_ok, Sem.run_pure]; rfl
theorem box_gives {e : TypeId} {x : Operand} {y : AV} {H' : AHeap} (ho : o.op = .box e x) (h : abox s.H e (acells (s.ev x)) = some (y, H')) : Gives1 P s o y H' :=
  abox_ok h fun G a w hr => ⟨(a.eval x).cells, by simp [execOp, ho, Instr.box, newVar_run], (hr.ev x).cells⟩
theorem zero_run {t : Nat} {i : TypeInfo} {z : Value} (h : P.info? t = some i) (hz : i.zero = some z) (w : World) : (zeroValue t).run P w = .ok z w := by simp [zeroValue, typeInfo, h, hz]
theorem alloc_gives (hT : TyOK P tt) {e : TypeId} {y : AV} {H' : AHeap} {r : TyRow} (ho : o.op = .alloc e) (ht : tt e = some r) (h : abox s.H e (r.zero.map lt) = some (y, H')) : Gives1 P s o y H' := by
  obtain ⟨i, d, z, hi, hd, hz, rfl⟩ := hT.row ht
  exact abox_ok h fun G a w hr => ⟨z.cells, by simp [execOp, ho, Instr.alloc, zero_run hi hz, newVar_run], RL.lits _ _ _⟩
def splice (l : List AV) (off : Nat) (xs : List AV) : List AV := match xs with
  | [x] => l.set off x
  | xs => l.take off ++ xs ++ l.drop (off + xs.length)
theorem splice_eq (l : List AV) (off : Nat) (xs : List AV) (h : off + xs.length ≤ l.length) : splice l off xs = l.take off ++ xs ++ l.drop (off + xs.length) := by
  match xs with
  | [] => rfl
  | [x] =>
    simp only [splice, List.length_singleton] at *
    rw [List.set_eq_take_append_cons_drop, if_pos (by omega)]
    simp
  | x :: y :: xs => rfl
theorem list_splice (l vs : List Value) (base len off : Nat) (h1 : off + vs.length ≤ len) (h2 : base + len ≤ l.length) :
    ((l.take (base + off) ++ vs ++ l.drop (base + off + vs.length)).drop base).take len = (((l.drop base).take len).take off) ++ vs ++ (((l.drop base).take len).drop (off + vs.length)) := by
  apply List.ext_getElem?
  intro i
  simp only [List.getElem?_take, List.getElem?_drop, List.getElem?_append, List.length_append, List.length_take, List.length_drop, List.append_assoc]
  grind
def astore (tt : TT) (H : AHeap) (t : Nat) (p x : AV) : Option AHeap :=
  match tt t, p with
  | some r, .optr o off => match H[o]? with
    | some (some obj) => if (acells x).length = r.size ∧ (acells x).all AV.one = true ∧ off + (acells x).length ≤ obj.cells.length then some (H.set o (some ⟨obj.t, splice obj.cells off (acells x)⟩)) else none
    | _ => none
  | _, _ => none
theorem astore_ok (hT : TyOK P tt) {t : Nat} {p x : AV} {H H' : AHeap} (h : astore tt H t p x = some H') {G : Gh} {w : World} {pv xv : Value} (hi : Inv G H w) (hp : RA H.length G p pv) (hx : RA H.length G x xv) :
    ∃ w', (Instr.storeAt t pv xv).run P w = .ok () w' ∧ Inv G H' w' ∧ H'.length = H.length := by
  unfold astore at h
  split at h
  · rename_i r o off ht
    obtain ⟨i, d, z, hin, hd, hz, rfl⟩ := hT.row ht
    split at h
    · rename_i obj ho
      split at h
      · rename_i hc
        obtain ⟨c1, c2, c3⟩ := hc
        simp only [Option.some.injEq] at h; subst h
        cases hp with
        | optr _ _ hlt =>
          have c1 : (acells x).length = i.size := c1
          have hxc := hx.cells
          have hx1 := hxc.oneCells c2
          have hsz : xv.cells.size = i.size := by rw [← c1, hxc.1]; simp
          by_cases hn : (acells x).length = 0
          · refine ⟨w, ?_, ?_, List.length_set⟩
            · have hv0 : xv.cells.toList = [] := List.length_eq_zero_iff.1 (by rw [← hxc.1]; exact hn)
              simp [Instr.storeAt, Instr.sureAddr, storeVar, sizeOf_run hin, hsz, hv0, storeCells]
            · have : splice obj.cells off (acells x) = obj.cells := by
                rw [splice_eq _ _ _ c3, List.length_eq_zero_iff.1 hn]; simp
              rw [this]
              have e2 : H.set o (some ⟨obj.t, obj.cells⟩) = H := by
                obtain ⟨hlt2, hget⟩ := List.getElem?_eq_some_iff.1 ho
                show H.set o (some obj) = H
                rw [← hget]; exact List.set_getElem_self hlt2
              rw [e2]; exact hi
          · obtain ⟨hreal, cs, k1, k2, k3, k4, k5, k6⟩ := hi.real ho (fun e => by rw [e, List.length_nil] at c3; omega)
            have hlen' : (G.mu o).2 + obj.cells.length ≤ cs.toList.length := by
              have := k3.1; rw [List.length_take, List.length_drop] at this; omega
            have hvl : xv.cells.toList.length = (acells x).length := hxc.1.symm
            have hrun := run_storeCells_at P (G.mu o).1 ((G.mu o).2 + off) obj.t xv.cells.toList 0 cs w k1 (by simp at hlen' hvl ⊢; omega) hx1
            simp only [Nat.add_zero] at hrun
            refine ⟨_, ?_, hi.row ho hreal (splice obj.cells off (acells x)) (cs.toList.take ((G.mu o).2 + off) ++ xv.cells.toList ++ cs.toList.drop ((G.mu o).2 + off + xv.cells.toList.length)).toArray ?_ ?_ ?_, List.length_set⟩
            · simp only [Instr.storeAt, Instr.sureAddr, Sem.run_bind, Sem.run_pure, Result.andThen_ok, storeVar, sizeOf_run hin, hsz, ne_eq, not_true, if_false]
              exact hrun
            · simp only [List.size_toArray]
              rw [← k2]
              simp at hlen' hvl ⊢; omega
            · have hsl : (splice obj.cells off (acells x)).length = obj.cells.length := by rw [splice_eq _ _ _ c3]; simp; omega
              rw [hsl, list_splice cs.toList xv.cells.toList (G.mu o).2 obj.cells.length off (by rw [hvl]; omega) hlen', splice_eq _ _ _ c3, ← hvl]
              exact RL.append (RL.append (k3.take off) hxc) (k3.drop _)
            · rw [splice_eq _ _ _ c3]
              rw [List.all_append, List.all_append]
              have a1 := all_take k4 0 off
              simp only [List.drop_zero] at a1
              have a2 : (obj.cells.drop (off + (acells x).length)).all AV.one = true := by
                rw [List.all_eq_true] at *
                exact fun y hy => k4 y (List.mem_of_mem_drop hy)
              rw [a1, c2, a2]; rfl
      · cases h
    · cases h
  · cases h
theorem store_gives (hT : TyOK P tt) {t : TypeId} {p x : Operand} {H' : AHeap} (ho : o.op = .store t p x) (h : astore tt s.H t (s.ev p) (s.ev x) = some H') : Gives1 P s o uD H' := fun G a w hr => by
  obtain ⟨w', h1, h2, h3⟩ := astore_ok hT h hr.inv (hr.ev p) (hr.ev x)
  exact ⟨G, undef, w', .inr ⟨by simp [execOp, ho, h1], rfl⟩, Gh.le.refl _ _, by omega, h2, .iv _ _ (.lit _)⟩
end
end Go.Proofs.YtghdacijcnmhlaaDoor
namespace Go.Proofs.YtghdacijcnmhlaaDoor
open Go.RowKit
set_option linter.unusedVariables false
set_option linter.unusedSimpArgs false
section
variable {P : Program} {tt : TT} {s : AS} {o : Oper}
def shiftA (x : AV) (k : Nat) : Option AV :=
  match x with
  | .optr o off => some (.optr o (off + k))
  | .xptr o _ => some (.optr o k)
  | .iv (.ptr get ext) => some (.iv (.ptr (fun j => get (k + j)) (ext - k)))
  | _ => none
theorem shiftA_ok {n : Nat} {G : Gh} {x y : AV} {k : Nat} {v : Value} (h : shiftA x k = some y) (hr : RA n G x v) : ∃ b q, v = .pointer (some ⟨b, q, none⟩) ∧ RA n G y (.pointer (some ⟨b, q + k, none⟩)) := by
  cases hr with
  | optr o off hlt =>
    simp only [shiftA, Option.some.injEq] at h; subst h
    refine ⟨_, _, rfl, ?_⟩
    rw [Nat.add_assoc]; exact .optr o (off + k) hlt
  | xptr o sz hlt h2 h3 =>
    simp only [shiftA, Option.some.injEq] at h; subst h
    refine ⟨_, 0, rfl, ?_⟩
    have := RA.optr (n := n) (G := G) o k hlt
    rwa [h2] at this
  | iv x v hv =>
    cases hv with
    | ptr get ext b off cs t fr vs h1 h2 h3 =>
      simp only [shiftA, Option.some.injEq] at h; subst h
      refine ⟨b, off, rfl, .iv _ _ (.ptr _ _ b (off + k) cs t fr (fun j => vs (k + j)) h1 (fun j hj => ?_) (fun j hj => h3 _ (by omega)))⟩
      rw [Nat.add_assoc]; exact h2 _ (by omega)
    | _ => simp [shiftA] at h
  | _ => simp [shiftA] at h
def afieldAddr (tt : TT) (t : Nat) (x : AV) (f : Nat) : Option AV :=
  match tt t with
  | some ⟨.st fs, _, _, _⟩ => match fs[f]? with
    | some (ft, off) => match tt ft with
      | some r => if r.size = 0 then none else shiftA x off
      | none => none
    | none => none
  | _ => none
theorem fieldAddr_gives (hT : TyOK P tt) {t : TypeId} {x : Operand} {f : Nat} {y : AV} (ho : o.op = .fieldAddr t x f) (h : afieldAddr tt t (s.ev x) f = some y) : Gives1 P s o y s.H := by
  unfold afieldAddr at h
  split at h
  · rename_i fs _ _ _ ht
    obtain ⟨i, d, z, hi, hd, hz, e⟩ := hT.row ht
    simp only [TyRow.mk.injEq] at e
    obtain ⟨fa, rfl, rfl⟩ := kind_st e.1.symm
    split at h
    · rename_i ft off hf
      split at h
      · rename_i r hr'
        obtain ⟨i', d', z', hi', hd', hz', rfl⟩ := hT.row hr'
        split at h
        · cases h
        · rename_i hsz
          simp only [List.getElem?_map, Option.map_eq_some_iff, Prod.mk.injEq] at hf
          obtain ⟨fl, hfl, rfl, rfl⟩ := hf
          rw [Array.getElem?_toList] at hfl
          refine Gives1.same fun G a w hr => ?_
          obtain ⟨b, q, h1, h2⟩ := shiftA_ok h (hr.ev x)
          refine ⟨_, ?_, h2⟩
          have hsz' : ¬ i'.size = 0 := hsz
          simp [execOp, ho, Instr.fieldAt, h1, run_underlying hd, hfl, Instr.sureAddr, fieldPlace, sizeOf_run hi', hsz', add_addr]
      · cases h
    · cases h
  · cases h
def aindexAddr (tt : TT) (t : Nat) (x ix : AV) : Option AV :=
  match tt t, ix with
  | some ⟨.sl e, _, _, _⟩, .iv (.lit (.int k i)) => match tt e with
    | some r => match x with
      | .osl o off len sz => if 0 ≤ i ∧ i < len ∧ sz = r.size then some (.optr o (off + i.toNat * sz)) else none
      | .iv (.sl get len sz) => if 0 ≤ i ∧ i < len ∧ sz = r.size then some (.iv (.ptr (fun j => get (i.toNat * sz + j)) sz)) else none
      | _ => none
    | none => none
  | some ⟨.arr n e, _, _, _⟩, .iv (.lit (.int k i)) => match tt e with
    | some r => if 0 ≤ i ∧ i < n then shiftA x (i.toNat * r.size) else none
    | none => none
  | _, _ => none
theorem mul_lt_room {i len sz : Nat} (h : i < len) (j : Nat) (hj : j < sz) : i * sz + j < len * sz := by
  have : i * sz + sz ≤ len * sz := by rw [← Nat.succ_mul]; exact Nat.mul_le_mul_right sz h
  omega
theorem indexAddr_gives (hT : TyOK P tt) {t : TypeId} {x ix : Operand} {y : AV} (ho : o.op = .indexAddr t x ix) (h : aindexAddr tt t (s.ev x) (s.ev ix) = some y) : Gives1 P s o y s.H := by
  unfold aindexAddr at h
  split at h
  · rename_i e _ _ _ k i ht hix
    obtain ⟨ii, d, z, hi, hd, hz, e1⟩ := hT.row ht
    simp only [TyRow.mk.injEq] at e1
    have hd' := kind_sl e1.1.symm; subst hd'
    split at h
    · rename_i r hr'
      obtain ⟨i', d', z', hi', hd', hz', rfl⟩ := hT.row hr'
      split at h
      · rename_i ob off len sz hx
        split at h
        · rename_i hc
          obtain ⟨c1, c2, c3⟩ := hc
          have c3 : sz = i'.size := c3
          simp only [Option.some.injEq] at h; subst h
          refine Gives1.same fun G a w hr => ?_
          have hix' := hr.ev ix; rw [hix] at hix'
          have hx' := hr.ev x; rw [hx] at hx'
          have e2 := hix'.lit_inv
          generalize hav : a.eval x = xv at hx'
          cases hx' with
          | onil => omega
          | osl _ _ _ _ b q cap h1 h2 h3 h4 h5 h6 =>
            have hq := h3 (by omega)
            subst hq h2
            refine ⟨.pointer (some ⟨(G.mu ob).1, (G.mu ob).2 + (off + i.toNat * sz), none⟩), ?_, .optr _ _ h1⟩
            have hlt : 0 ≤ i ∧ i < (len : Int) := ⟨c1, c2⟩
            simp [execOp, ho, Instr.indexAt, hav, e2, asIntOf, run_underlying hd, hlt, sizeOf_run hi', add_addr, c3, Nat.add_assoc]
        · cases h
      · rename_i get len sz hx
        split at h
        · rename_i hc
          obtain ⟨c1, c2, c3⟩ := hc
          have c3 : sz = i'.size := c3
          simp only [Option.some.injEq] at h; subst h
          refine Gives1.same fun G a w hr => ?_
          have hix' := hr.ev ix; rw [hix] at hix'
          have hx' := hr.ev x; rw [hx] at hx'
          have e2 := hix'.lit_inv
          generalize hav : a.eval x = xv at hx'
          have hlt : 0 ≤ i ∧ i < (len : Int) := ⟨c1, c2⟩
          cases hx' with
          | iv _ _ hv =>
            cases hv with
            | nil => omega
            | empty => omega
            | sl _ _ _ b q cap cs t' fr vs h1 h2 h3 h4 h5 =>
              refine ⟨.pointer (some ⟨b, q + i.toNat * sz, none⟩), ?_, .iv _ _ (.ptr _ _ b (q + i.toNat * sz) cs t' fr (fun j => vs (i.toNat * sz + j)) h1 (fun j hj => ?_) (fun j hj => h3 _ ?_))⟩
              · simp [execOp, ho, Instr.indexAt, hav, e2, asIntOf, run_underlying hd, hlt, sizeOf_run hi', add_addr, c3]
              · rw [Nat.add_assoc]; exact h2 _ (mul_lt_room (by omega) j hj)
              · exact mul_lt_room (by omega) j hj
        · cases h
      · cases h
    · cases h
  · rename_i n e _ _ _ k i ht hix
    obtain ⟨ii, d, z, hi, hd, hz, e1⟩ := hT.row ht
    simp only [TyRow.mk.injEq] at e1
    have hd' := kind_arr e1.1.symm; subst hd'
    split at h
    · rename_i r hr'
      obtain ⟨i', d', z', hi', hd', hz', rfl⟩ := hT.row hr'
      split at h
      · rename_i hc
        refine Gives1.same fun G a w hr => ?_
        have hix' := hr.ev ix; rw [hix] at hix'
        have e2 := hix'.lit_inv
        obtain ⟨b, q, h1, h2⟩ := shiftA_ok h (hr.ev x)
        refine ⟨_, ?_, h2⟩
        simp [execOp, ho, Instr.indexAt, h1, e2, asIntOf, run_underlying hd, hc, sizeOf_run hi', add_addr, Instr.sureAddr]
      · cases h
    · cases h
  · cases h
def aggCells : AV → Option (List AV)
  | .agg xs => some xs
  | .iv (.lit (.agg cs)) => some (cs.toList.map lt)
  | _ => none
theorem aggCells_ok {n : Nat} {G : Gh} {x : AV} {v : Value} {xs : List AV} (h : aggCells x = some xs) (hr : RA n G x v) : ∃ vs : List Value, v = .agg vs.toArray ∧ RL n G xs vs := by
  cases hr with
  | agg ys vs h1 h2 h3 => simp only [aggCells, Option.some.injEq] at h; subst h; exact ⟨vs, rfl, h1, h2⟩
  | iv x v hv =>
    cases hv with
    | lit v =>
      cases v with
      | agg cs => simp only [aggCells, Option.some.injEq] at h; subst h; exact ⟨cs.toList, by simp, RL.lits _ _ _⟩
      | _ => simp [aggCells] at h
    | _ => simp [aggCells] at h
  | _ => simp [aggCells] at h
def apart (tt : TT) (t : Nat) (xs : List AV) (off : Nat) : Option AV :=
  match tt t with
  | some r => if r.kind.agg = true then (if ((xs.drop off).take r.size).all AV.one = true then some (.agg ((xs.drop off).take r.size)) else none) else xs[off]?
  | none => none
theorem apart_ok (hT : TyOK P tt) {t : Nat} {xs : List AV} {off : Nat} {y : AV} (h : apart tt t xs off = some y) {n : Nat} {G : Gh} {vs : List Value} (hr : RL n G xs vs) (w : World) : ∃ u, (part t vs.toArray off).run P w = .ok u w ∧ RA n G y u := by
  unfold apart at h
  split at h
  · rename_i r ht
    obtain ⟨i, d, z, hi, hd, hz, rfl⟩ := hT.row ht
    split at h
    · rename_i hag
      split at h
      · rename_i hall
        simp only [Option.some.injEq] at h; subst h
        have hrr := (hr.drop off).take i.size
        refine ⟨.agg ((vs.drop off).take i.size).toArray, ?_, .agg _ _ hrr.1 hrr.2 hall⟩
        simp [part, isAgg_run hd, hag, sizeOf_run hi, List.extract_toArray]
      · cases h
    · rename_i hag
      obtain ⟨u, e, hu⟩ := hr.at h
      refine ⟨u, ?_, hu⟩
      have hag' : (kindOf d).agg = false := by simpa using hag
      simp [part, isAgg_run hd, hag', e]
  · cases h
def afield (tt : TT) (t : Nat) (x : AV) (f : Nat) : Option AV :=
  match tt t, aggCells x with
  | some ⟨.st fs, _, _, _⟩, some xs => match fs[f]? with
    | some (ft, off) => apart tt ft xs off
    | none => none
  | _, _ => none
theorem field_gives (hT : TyOK P tt) {t : TypeId} {x : Operand} {f : Nat} {y : AV} (ho : o.op = .field t x f) (h : afield tt t (s.ev x) f = some y) : Gives1 P s o y s.H := by
  unfold afield at h
  split at h
  · rename_i fs _ _ _ xs ht hxs
    obtain ⟨i, d, z, hi, hd, hz, e⟩ := hT.row ht
    simp only [TyRow.mk.injEq] at e
    obtain ⟨fa, rfl, rfl⟩ := kind_st e.1.symm
    split at h
    · rename_i ft off hf
      simp only [List.getElem?_map, Option.map_eq_some_iff, Prod.mk.injEq] at hf
      obtain ⟨fl, hfl, rfl, rfl⟩ := hf
      rw [Array.getElem?_toList] at hfl
      refine Gives1.same fun G a w hr => ?_
      obtain ⟨vs, h1, h2⟩ := aggCells_ok hxs (hr.ev x)
      obtain ⟨u, h3, h4⟩ := apart_ok hT h h2 w
      exact ⟨u, by simp [execOp, ho, Instr.field, h1, run_underlying hd, hfl, asAgg, h3], h4⟩
    · cases h
  · cases h
def byteAt (s : ByteArray) (i : Nat) : UInt8 := s.data.toList.getD i 0
def aindex (tt : TT) (t : Nat) (x ix : AV) : Option AV :=
  match tt t, ix with
  | some ⟨.str, _, _, _⟩, .iv (.lit (.int k i)) => match x with
    | .iv (.lit (.string st)) => if 0 ≤ i ∧ i.toNat < st.size then some (lt (.int .u8 (byteAt st i.toNat).toNat)) else none
    | _ => none
  | some ⟨.arr n e, _, _, _⟩, .iv (.lit (.int k i)) => match tt e, aggCells x with
    | some r, some xs => if 0 ≤ i ∧ i < n then apart tt e xs (i.toNat * r.size) else none
    | _, _ => none
  | _, _ => none
theorem byteAt_get {s : ByteArray} {i : Nat} (h : i < s.size) : s[i]? = some (byteAt s i) := by
  have h' : i < s.data.size := h
  unfold byteAt
  rw [show s.data.toList.getD i 0 = s.data[i] by rw [List.getD_eq_getElem?_getD, Array.getElem?_toList, Array.getElem?_eq_getElem h']; rfl]
  rw [getElem?_pos s i h]
  rfl
theorem index_gives (hT : TyOK P tt) {t : TypeId} {x ix : Operand} {y : AV} (ho : o.op = .index t x ix) (h : aindex tt t (s.ev x) (s.ev ix) = some y) : Gives1 P s o y s.H := by
  unfold aindex at h
  split at h
  · rename_i _ _ _ k i ht hix
    obtain ⟨ii, d, z, hi, hd, hz, e1⟩ := hT.row ht
    simp only [TyRow.mk.injEq] at e1
    have hd' := kind_str e1.1.symm; subst hd'
    split at h
    · rename_i st hx
      split at h
      · rename_i hc
        simp only [Option.some.injEq] at h; subst h
        refine Gives1.same fun G a w hr => ?_
        have e2 := hr.ev ix; rw [hix] at e2; have e2 := e2.lit_inv
        have e3 := hr.ev x; rw [hx] at e3; have e3 := e3.lit_inv
        exact ⟨_, by simp [execOp, ho, Instr.index, e2, e3, asIntOf, run_underlying hd, hc.1, byteAt_get hc.2], .iv _ _ (.lit _)⟩
      · cases h
    · cases h
  · rename_i n e _ _ _ k i ht hix
    obtain ⟨ii, d, z, hi, hd, hz, e1⟩ := hT.row ht
    simp only [TyRow.mk.injEq] at e1
    have hd' := kind_arr e1.1.symm; subst hd'
    split at h
    · rename_i r xs hr' hxs
      obtain ⟨i', d', z', hi', hd', hz', rfl⟩ := hT.row hr'
      split at h
      · rename_i hc
        refine Gives1.same fun G a w hr => ?_
        have e2 := hr.ev ix; rw [hix] at e2; have e2 := e2.lit_inv
        obtain ⟨vs, h1, h2⟩ := aggCells_ok hxs (hr.ev x)
        obtain ⟨u, h3, h4⟩ := apart_ok hT h h2 w
        exact ⟨u, by simp [execOp, ho, Instr.index, e2, h1, asIntOf, run_underlying hd, hc, sizeOf_run hi', h3], h4⟩
      · cases h
    · cases h
  · cases h
theorem extract_gives {x : Operand} {i : Nat} {xs : List AV} {y : AV} (ho : o.op = .extract x i) (hx : s.ev x = .tup xs) (h : xs[i]? = some y) : Gives1 P s o y s.H := by
  refine Gives1.same fun G a w hr => ?_
  have hx' := hr.ev x; rw [hx] at hx'
  generalize hav : a.eval x = xv at hx'
  cases hx' with
  | tup _ vs h1 h2 =>
    obtain ⟨u, e, hu⟩ := RL.at ⟨h1, h2⟩ h
    exact ⟨u, by simp [execOp, ho, Instr.extract, hav, e], hu⟩
theorem makeFunc_gives {f : FuncId} {first caps : Array Operand} (ho : o.op = .makeFunc (.func f) first caps) : Gives1 P s o (.fn f (first.toList.map s.ev) (caps.toList.map s.ev)) s.H := by
  refine Gives1.same fun G a w hr => ?_
  have h1 := AS.args hr first.toList
  have h2 := AS.args hr caps.toList
  refine ⟨_, ?_, .fn f _ _ _ _ h1.1 h2.1 h1.2 h2.2⟩
  have e : ∀ c : Array Operand, c.map a.eval = (c.toList.map a.eval).toArray := fun c => by apply Array.toList_inj.1; simp
  simp [execOp, ho, Instr.makeFunc, e]
end
end Go.Proofs.YtghdacijcnmhlaaDoor
namespace Go.Proofs.YtghdacijcnmhlaaDoor
open Go.RowKit
set_option linter.unusedVariables false
set_option linter.unusedSimpArgs false
section
variable {P : Program} {tt : TT} {s : AS} {o : Oper}
def aint (op : BinOp) (k : IntKind) (x y : Int) : Option Value :=
  match op with
  | .add => some (.int k (k.wrap (x + y)))
  | .sub => some (.int k (k.wrap (x - y)))
  | .mul => some (.int k (k.wrap (x * y)))
  | .quo => if y = 0 then none else some (.int k (k.wrap (x.tdiv y)))
  | .rem => if y = 0 then none else some (.int k (x.tmod y))
  | .and => some (.int k (k.wrap (BitVec.ofInt k.bits x &&& BitVec.ofInt k.bits y).toNat))
  | .or => some (.int k (k.wrap (BitVec.ofInt k.bits x ||| BitVec.ofInt k.bits y).toNat))
  | .xor => some (.int k (k.wrap (BitVec.ofInt k.bits x ^^^ BitVec.ofInt k.bits y).toNat))
  | .andNot => some (.int k (k.wrap (BitVec.ofInt k.bits x &&& ~~~BitVec.ofInt k.bits y).toNat))
  | .eql => some (.bool (x == y))
  | .neq => some (.bool (x != y))
  | .lss => some (.bool (decide (x < y)))
  | .leq => some (.bool (decide (x ≤ y)))
  | .gtr => some (.bool (decide (y < x)))
  | .geq => some (.bool (decide (y ≤ x)))
  | _ => none
def ashift (op : BinOp) (k : IntKind) (x y : Int) : Option Value :=
  if y < 0 then none else
  match op with
  | .shl => some (.int k (k.wrap (x * 2 ^ (min y.toNat k.bits))))
  | .shr => some (.int k (x.fdiv (2 ^ (min y.toNat k.bits))))
  | _ => none
def astr (op : BinOp) (x y : ByteArray) : Option Value :=
  match op with
  | .add => if x.size + y.size ≤ 9223372036854775807 then some (.string (x ++ y)) else none
  | .eql => some (.bool (x.toList == y.toList))
  | .neq => some (.bool (!(x.toList == y.toList)))
  | .lss => some (.bool (Op.bytesLess x.toList y.toList))
  | .leq => some (.bool (Op.bytesLess x.toList y.toList || x.toList == y.toList))
  | .gtr => some (.bool (!(Op.bytesLess x.toList y.toList || x.toList == y.toList)))
  | .geq => some (.bool (!Op.bytesLess x.toList y.toList))
  | _ => none
def aeq (op : BinOp) (b : Bool) : Option Value :=
  match op with
  | .eql => some (.bool b)
  | .neq => some (.bool (!b))
  | _ => none
def BinOp.isShift : BinOp → Bool
  | .shl | .shr => true
  | _ => false
def anilS : AV → Option Bool
  | .osl _ _ len _ => if 0 < len then some false else none
  | .iv (.lit (.slice none 0 0)) => some true
  | .iv (.sl _ len _) => if 0 < len then some false else none
  | _ => none
def anilP : AV → Option Bool
  | .optr _ _ => some false
  | .xptr _ _ => some false
  | .iv (.lit (.pointer none)) => some true
  | .iv (.ptr _ _) => some false
  | _ => none
def abin (tt : TT) (op : BinOp) (t : Nat) (x y : AV) : Option Value :=
  match x, y with
  | .iv (.lit (.int k a)), .iv (.lit (.int k' b)) => if BinOp.isShift op = true then ashift op k a b else if k = k' then aint op k a b else none
  | .iv (.lit (.string a)), .iv (.lit (.string b)) => astr op a b
  | .iv (.lit (.bool a)), .iv (.lit (.bool b)) => match tt t with
    | some ⟨.bool, _, _, _⟩ => aeq op (a == b)
    | _ => none
  | x, .iv (.lit (.slice none 0 0)) => match tt t, anilS x with
    | some ⟨.sl _, _, _, _⟩, some b => aeq op b
    | _, _ => none
  | x, .iv (.lit (.pointer none)) => match tt t, anilP x with
    | some ⟨.ptr _, _, _, _⟩, some b => aeq op b
    | _, _ => none
  | _, _ => none
theorem kind_ptr {d : TypeDesc} {e : Nat} (h : kindOf d = .ptr e) : d = .pointer e := by cases d <;> simp [kindOf] at h; rw [h]
theorem eq_of_run {op : BinOp} {t : Nat} {u u' : Value} {b : Bool} {v : Value} (h : aeq op b = some v) (w : World) (p q : Operand) (hg : eqGuard op t p q u u' = pure ())
    (hE : binOp .eql t u u' = (do let c ← Op.equal t u u'; pure (.bool c))) (hN : binOp .neq t u u' = (do let c ← Op.equal t u u'; pure (.bool (!c))))
    (he : (Op.equal t u u').run P w = .ok b w) : (do eqGuard op t p q u u'; binOp op t u u' : Sem Value).run P w = .ok v w := by
  rw [hg]
  cases op <;> simp only [aeq, Option.some.injEq, reduceCtorEq] at h <;> subst h
  · rw [hE]; simp [he]
  · rw [hN]; simp [he]
theorem anilS_ok {x : AV} {b : Bool} (h : anilS x = some b) {n : Nat} {G : Gh} {u : Value} (hr : RA n G x u) : ∃ a l c, u = .slice a l c ∧ b = a.isNone := by
  unfold anilS at h
  split at h
  · split at h
    · simp only [Option.some.injEq] at h; subst h
      cases hr with
      | osl => exact ⟨_, _, _, rfl, rfl⟩
      | onil => omega
    · cases h
  · simp only [Option.some.injEq] at h; subst h; have := hr.lit_inv; subst this; exact ⟨_, _, _, rfl, rfl⟩
  · split at h
    · rename_i hpos
      simp only [Option.some.injEq] at h; subst h
      cases hr with
      | iv _ _ hv => cases hv <;> first | exact ⟨_, _, _, rfl, rfl⟩ | omega
    · cases h
  · cases h
theorem anilP_ok {x : AV} {b : Bool} (h : anilP x = some b) {n : Nat} {G : Gh} {u : Value} (hr : RA n G x u) : ∃ a, u = .pointer a ∧ b = a.isNone := by
  unfold anilP at h
  split at h
  · simp only [Option.some.injEq] at h; subst h; cases hr; exact ⟨_, rfl, rfl⟩
  · simp only [Option.some.injEq] at h; subst h; cases hr; exact ⟨_, rfl, rfl⟩
  · simp only [Option.some.injEq] at h; subst h; have := hr.lit_inv; subst this; exact ⟨_, rfl, rfl⟩
  · simp only [Option.some.injEq] at h; subst h
    cases hr with
    | iv _ _ hv => cases hv; exact ⟨_, rfl, rfl⟩
  · cases h
theorem abin_run (hT : TyOK P tt) {op : BinOp} {t : Nat} {x y : AV} {v : Value} (h : abin tt op t x y = some v) {n : Nat} {G : Gh} {u u' : Value} (h1 : RA n G x u) (h2 : RA n G y u') (p q : Operand) (w : World) :
    (do eqGuard op t p q u u'; binOp op t u u' : Sem Value).run P w = .ok v w := by
  unfold abin at h
  split at h
  · have := h1.lit_inv; have := h2.lit_inv; subst u u'
    rename_i k a k' b
    split at h
    · rename_i hs
      unfold ashift at h
      split at h
      · cases h
      · rename_i hneg
        cases op <;> simp [BinOp.isShift] at hs <;> simp only [Option.some.injEq] at h <;> subst h <;> simp [eqGuard, binOp, Op.shift, hneg]
    · split at h
      · rename_i hs hk
        subst hk
        cases op <;> simp only [aint, Option.some.injEq] at h <;> (try (simp [BinOp.isShift] at hs; done)) <;> (try (split at h <;> simp only [Option.some.injEq, reduceCtorEq] at h)) <;> (try (cases h; done)) <;> (try subst h) <;>
          simp_all [eqGuard, binOp, Op.intArith, Op.intCmp, Op.intDiv, Op.intBits]
      · cases h
  · have := h1.lit_inv; have := h2.lit_inv; subst u u'
    rename_i a b
    have hg : eqGuard op t p q (.string a) (.string b) = pure () := eqGuard_at_string op t p q _ a
    rw [hg]
    cases op <;> simp only [astr, Option.some.injEq, reduceCtorEq] at h
    case add =>
      split at h
      · rename_i hsz
        simp only [Option.some.injEq] at h; subst h
        have hsz' : ¬ (9223372036854775807 < (a.size : Int) + b.size) := by omega
        simp [binOp, Op.stringOp, hsz']
      · cases h
    all_goals (subst h; simp [binOp, Op.stringOp])
  · have := h1.lit_inv; have := h2.lit_inv; subst u u'
    split at h
    · rename_i a b _ _ _ _ ht
      obtain ⟨ii, d, z, hi, hd, hz, e1⟩ := hT.row ht
      simp only [TyRow.mk.injEq] at e1
      have hd' := kind_bool e1.1.symm; subst hd'
      exact eq_of_run h w p q (eqGuard_at_bool op t p q _ a) rfl rfl (run_equal_bool w t a b hd)
    · cases h
  · have := h2.lit_inv; subst u'
    split at h
    · rename_i b ht hn
      obtain ⟨ii, d, z, hi, hd, hz, e1⟩ := hT.row ht
      simp only [TyRow.mk.injEq] at e1
      have hd' := kind_sl e1.1.symm; subst hd'
      obtain ⟨a, l, c, rfl, rfl⟩ := anilS_ok hn h1
      exact eq_of_run h w p q (eqGuard_at_slice op t p q _ a l c) rfl rfl (run_equal_slice_nil w t _ a l c hd)
    · cases h
  · have := h2.lit_inv; subst u'
    split at h
    · rename_i b ht hn
      obtain ⟨ii, d, z, hi, hd, hz, e1⟩ := hT.row ht
      simp only [TyRow.mk.injEq] at e1
      have hd' := kind_ptr e1.1.symm; subst hd'
      obtain ⟨a, rfl, rfl⟩ := anilP_ok hn h1
      exact eq_of_run h w p q (eqGuard_at_pointer op t p q _ a) rfl rfl (run_equal_pointer_nil w t a (by rw [hd]; simp [Program.pointee, hd]))
    · cases h
  · cases h
theorem bin_gives (hT : TyOK P tt) {op : BinOp} {t ty : TypeId} {x y : Operand} {v : Value} (ho : o.op = .binOp op t x y ty) (h : abin tt op t (s.ev x) (s.ev y) = some v) : Gives1 P s o (lt v) s.H := by
  refine Gives1.same fun G a w hr => ⟨v, ?_, .iv _ _ (.lit _)⟩
  have := abin_run hT h (hr.ev x) (hr.ev y) x y w
  simp only [execOp, ho]
  rw [Sem.run_bind, this]
  rfl
def aun (op : UnOp) (x : AV) : Option Value :=
  match op, x with
  | .neg, .iv (.lit (.int k n)) => some (.int k (k.wrap (-n)))
  | .not, .iv (.lit (.bool b)) => some (.bool (!b))
  | _, _ => none
theorem un_gives {op : UnOp} {t : TypeId} {x : Operand} {v : Value} (ho : o.op = .unOp op t x) (h : aun op (s.ev x) = some v) : Gives1 P s o (lt v) s.H := by
  refine Gives1.same fun G a w hr => ⟨v, ?_, .iv _ _ (.lit _)⟩
  have hx := hr.ev x
  unfold aun at h
  split at h
  · rename_i e; rw [e] at hx; have := hx.lit_inv
    simp only [Option.some.injEq] at h; subst h
    simp [execOp, ho, this, Op.unary, Op.intArith]
  · rename_i e; rw [e] at hx; have := hx.lit_inv
    simp only [Option.some.injEq] at h; subst h
    simp [execOp, ho, this, Op.unary]
  · cases h
def aconv (tt : TT) (dst : Nat) (x : AV) : Option Value :=
  match tt dst, x with
  | some ⟨.int k, _, _, _⟩, .iv (.lit (.int _ n)) => some (.int k (k.wrap n))
  | some ⟨.str, _, _, _⟩, .iv (.lit (.string b)) => some (.string b)
  | _, _ => none
theorem conv_gives (hT : TyOK P tt) {src dst : TypeId} {x : Operand} {v : Value} {r : TyRow} (ho : o.op = .convert src dst x) (hs : tt src = some r) (h : aconv tt dst (s.ev x) = some v) : Gives1 P s o (lt v) s.H := by
  refine Gives1.same fun G a w hr => ⟨v, ?_, .iv _ _ (.lit _)⟩
  have hx := hr.ev x
  obtain ⟨i0, d0, z0, _, hd0, _, _⟩ := hT.row hs
  unfold aconv at h
  split at h
  · rename_i ht e
    obtain ⟨ii, d, z, hi, hd, hz, e1⟩ := hT.row ht
    simp only [TyRow.mk.injEq] at e1
    have hd' := kind_int e1.1.symm; subst hd'
    rw [e] at hx; have := hx.lit_inv
    simp only [Option.some.injEq] at h; subst h
    simp [execOp, ho, this, convert, run_underlying hd, run_underlying hd0, Conv.intToInt]
  · rename_i ht e
    obtain ⟨ii, d, z, hi, hd, hz, e1⟩ := hT.row ht
    simp only [TyRow.mk.injEq] at e1
    have hd' := kind_str e1.1.symm; subst hd'
    rw [e] at hx; have := hx.lit_inv
    simp only [Option.some.injEq] at h; subst h
    simp [execOp, ho, this, convert, run_underlying hd, run_underlying hd0]
  · cases h
def apick (b : Bool) (x y : AV) : AV :=
  match x, y with
  | .iv (.lit (.bool p)), .iv (.lit (.bool q)) => lt (.bool (bif b then p else q))
  | x, y => if b = true then x else y
theorem apick_ok {n : Nat} {G : Gh} {b : Bool} {x y : AV} {u v : Value} (h1 : RA n G x u) (h2 : RA n G y v) : RA n G (apick b x y) (if b = true then u else v) := by
  unfold apick
  split
  · have := h1.lit_inv; have := h2.lit_inv; subst u v; cases b <;> exact .iv _ _ (.lit _)
  · cases b
    · exact h2
    · exact h1
theorem pick_gives {c x y : Operand} {b : Bool} (ho : o.op = .pick c x y) (hc : s.ev c = lt (.bool b)) : Gives1 P s o (apick b (s.ev x) (s.ev y)) s.H := by
  refine Gives1.same fun G a w hr => ?_
  have hc' := hr.ev c; rw [hc] at hc'; have := hc'.lit_inv
  refine ⟨_, ?_, apick_ok (hr.ev x) (hr.ev y)⟩
  simp [execOp, ho, this, asBool]
theorem move_gives {x : Operand} (ho : o.op = .move x ∨ o.op = .assign x) : Gives1 P s o (s.ev x) s.H := by
  refine Gives1.same fun G a w hr => ⟨_, ?_, hr.ev x⟩
  rcases ho with ho | ho <;> simp [execOp, ho]
def notNil : AV → Bool
  | .optr _ _ | .xptr _ _ | .iv (.ptr _ _) | .fn _ _ _ => true
  | _ => false
theorem nilCheck_gives {x : Operand} (ho : o.op = .nilCheck x) (h : notNil (s.ev x) = true) : Gives1 P s o (s.ev x) s.H := by
  refine Gives1.same fun G a w hr => ⟨_, ?_, hr.ev x⟩
  have hx := hr.ev x
  generalize s.ev x = y at *
  generalize hav : a.eval x = xv at hx
  cases hx with
  | optr => simp [execOp, ho, hav]
  | xptr => simp [execOp, ho, hav]
  | fn => simp [execOp, ho, hav]
  | iv _ _ hv => cases hv <;> first | (simp [notNil] at h; done) | simp [execOp, ho, hav]
  | _ => simp [notNil] at h
def alen (tt : TT) (t : Nat) (x : AV) : Option Nat :=
  match tt t, x with
  | some ⟨.sl _, _, _, _⟩, .osl _ _ len _ => some len
  | some ⟨.sl _, _, _, _⟩, .iv (.sl _ len _) => some len
  | some ⟨.sl _, _, _, _⟩, .iv (.lit (.slice none 0 0)) => some 0
  | some ⟨.str, _, _, _⟩, .iv (.lit (.string b)) => some b.size
  | some ⟨.arr n _, _, _, _⟩, _ => some n
  | _, _ => none
theorem len_gives (hT : TyOK P tt) {x : Operand} {t : TypeId} {n : Nat} (ho : o.op = .call { callee := .builtin .len, args := #[x], argTypes := #[t] }) (h : alen tt t (s.ev x) = some n) : Gives1 P s o (lt (.int .i64 n)) s.H := by
  refine Gives1.same fun G a w hr => ⟨.int .i64 n, ?_, .iv _ _ (.lit _)⟩
  have hx := hr.ev x
  generalize s.ev x = y at *
  generalize hav : a.eval x = xv at hx
  unfold alen at h
  split at h
  · rename_i ht
    obtain ⟨ii, d, z, hi, hd, hz, e1⟩ := hT.row ht
    simp only [TyRow.mk.injEq] at e1
    have hd' := kind_sl e1.1.symm; subst hd'
    simp only [Option.some.injEq] at h; subst h
    cases hx <;> simp [execOp, ho, resolve, invoke, builtin, hav, Builtin.len_, run_underlying hd, goInt]
  · rename_i ht
    obtain ⟨ii, d, z, hi, hd, hz, e1⟩ := hT.row ht
    simp only [TyRow.mk.injEq] at e1
    have hd' := kind_sl e1.1.symm; subst hd'
    simp only [Option.some.injEq] at h; subst h
    cases hx with
    | iv _ _ hv => cases hv <;> simp [execOp, ho, resolve, invoke, builtin, hav, Builtin.len_, run_underlying hd, goInt]
  · rename_i ht
    obtain ⟨ii, d, z, hi, hd, hz, e1⟩ := hT.row ht
    simp only [TyRow.mk.injEq] at e1
    have hd' := kind_sl e1.1.symm; subst hd'
    have := hx.lit_inv; subst this
    simp only [Option.some.injEq] at h; subst h
    simp [execOp, ho, resolve, invoke, builtin, hav, Builtin.len_, run_underlying hd, goInt]
  · rename_i ht
    obtain ⟨ii, d, z, hi, hd, hz, e1⟩ := hT.row ht
    simp only [TyRow.mk.injEq] at e1
    have hd' := kind_str e1.1.symm; subst hd'
    have := hx.lit_inv; subst this
    simp only [Option.some.injEq] at h; subst h
    simp [execOp, ho, resolve, invoke, builtin, hav, Builtin.len_, run_underlying hd, goInt]
  · rename_i ht
    obtain ⟨ii, d, z, hi, hd, hz, e1⟩ := hT.row ht
    simp only [TyRow.mk.injEq] at e1
    have hd' := kind_arr e1.1.symm; subst hd'
    simp only [Option.some.injEq] at h; subst h
    simp [execOp, ho, resolve, invoke, builtin, hav, Builtin.len_, run_underlying hd, goInt]
  · cases h
end
end Go.Proofs.YtghdacijcnmhlaaDoor
namespace Go.Proofs.YtghdacijcnmhlaaDoor
open Go.RowKit
set_option linter.unusedVariables false
set_option linter.unusedSimpArgs false
section
variable {P : Program} {tt : TT} {s : AS} {o : Oper}
def azero (zs : List Value) (n : Nat) : List AV :=
  match zs with
  | [v] => List.replicate n (lt v)
  | zs => (List.range n).map fun i => lt (zs.getD (i % zs.length) default)
theorem azero_made (n0 : Nat) (G : Gh) (z : Array Value) (n : Nat) : RL n0 G (azero z.toList n) (madeCells z n).toList := by
  have hm : (madeCells z n).toList = (List.range n).map fun i => z[i % z.size]! := by simp [madeCells]
  rw [hm]
  have key : RL n0 G ((List.range n).map fun i => lt (z.toList.getD (i % z.toList.length) default)) ((List.range n).map fun i => z[i % z.size]!) := by
    refine ⟨by simp, fun i x v e1 e2 => ?_⟩
    rw [List.getElem?_map] at e1 e2
    obtain ⟨q, hq, rfl⟩ := Option.map_eq_some_iff.1 e1
    rw [hq] at e2
    simp only [Option.map_some, Option.some.injEq] at e2; subst e2
    by_cases hz : z.size = 0
    · have : z = #[] := Array.size_eq_zero_iff.1 hz
      subst this
      exact .iv _ _ (.lit _)
    · have hlt : q % z.size < z.size := Nat.mod_lt _ (by omega)
      have e1 : z.toList.getD (q % z.toList.length) default = z[q % z.size]! := by
        rw [List.getD_eq_getElem?_getD, Array.length_toList, Array.getElem?_toList, Array.getElem?_eq_getElem hlt, getElem!_pos z _ hlt]; rfl
      rw [e1]
      exact .iv _ _ (.lit _)
  unfold azero
  split
  · rename_i v e
    have : (List.replicate n (lt v)) = ((List.range n).map fun i => lt (z.toList.getD (i % z.toList.length) default)) := by
      rw [e]
      apply List.ext_getElem?
      intro i
      rw [List.getElem?_map, List.getElem?_replicate]
      by_cases hi : i < n
      · rw [if_pos hi, List.getElem?_range hi]; simp [Nat.mod_one]
      · rw [if_neg hi, List.getElem?_eq_none (by simp; omega)]; rfl
    rw [this]; exact key
  · exact key
theorem Gives1.newSlice {t : TypeId} {xs : List AV} {len sz : Nat} (h1 : xs.all AV.one = true)
    (h : ∀ G a w, Rst G s a w → ∃ (cs : Array Value) (cap : Nat), (execOp a.eval o).run P w = .ok (.value (.slice (some ⟨w.heap.size, 0, none⟩) len cap)) (w.alloc (.cells cs t)) ∧ RL s.H.length G xs (cs.toList.take xs.length) ∧ len ≤ cap ∧ cap ≤ maxLen ∧ cap * sz ≤ cs.size) :
    Gives1 P s o (.osl s.H.length 0 len sz) (s.H ++ [some ⟨t, xs⟩]) := fun G a w hr => by
  obtain ⟨cs, cap, h2, h3, h4, h5, h6⟩ := h G a w hr
  refine ⟨_, _, _, .inl h2, G.more_le (Nat.le_refl _) hr.inv.new _ _, by simp, hr.inv.alloc t xs cs h3 h1, ?_⟩
  exact .osl _ _ _ _ _ _ _ (.inl rfl) (by simp [Gh.more]) (fun _ => by simp [Gh.more]) h4 h5 (fun _ => by simp [Gh.more]; exact h6)
def amake (tt : TT) (H : AHeap) (t : Nat) (l c : AV) : Option (AV × AHeap) :=
  match tt t, l, c with
  | some ⟨.sl e, _, _, _⟩, .iv (.lit (.int _ l)), .iv (.lit (.int _ c)) => match tt e with
    | some r => if 0 ≤ l ∧ l ≤ c ∧ (r.bytes : Int) * c ≤ 281474976710656 ∧ c ≤ 9223372036854775807 then
        (if (azero r.zero (c.toNat * r.size)).all AV.one = true then some (.osl H.length 0 l.toNat r.size, H ++ [some ⟨e, azero r.zero (c.toNat * r.size)⟩]) else none) else none
    | none => none
  | _, _, _ => none
theorem make_gives (hT : TyOK P tt) {t : TypeId} {l c : Operand} {y : AV} {H' : AHeap} (ho : o.op = .makeSlice t l c) (h : amake tt s.H t (s.ev l) (s.ev c) = some (y, H')) : Gives1 P s o y H' := by
  unfold amake at h
  split at h
  · rename_i e _ _ _ kl li kc ci ht hl hc
    obtain ⟨ii, d, z, hi, hd, hz, e1⟩ := hT.row ht
    simp only [TyRow.mk.injEq] at e1
    have hd' := kind_sl e1.1.symm; subst hd'
    split at h
    · rename_i r hr'
      obtain ⟨i', d', z', hi', hd', hz', rfl⟩ := hT.row hr'
      split at h
      · rename_i hcond
        obtain ⟨c1, c2, c3, c4⟩ := hcond
        split at h
        · rename_i hall
          simp only [Option.some.injEq, Prod.mk.injEq] at h
          obtain ⟨rfl, rfl⟩ := h
          refine Gives1.newSlice hall fun G a w hr => ?_
          have e2 := hr.ev l; rw [hl] at e2; have e2 := e2.lit_inv
          have e3 := hr.ev c; rw [hc] at e3; have e3 := e3.lit_inv
          have hrun := run_make (P := P) w t e i' z' hd hi' hz' kl kc li ci c1 c2 c3 c4
          refine ⟨madeCells z'.cells (ci.toNat * i'.size), ci.toNat, by simp [execOp, ho, e2, e3, hrun], ?_, by omega, by unfold maxLen; omega, by rw [size_madeCells]; exact Nat.le_refl _⟩
          have := azero_made s.H.length G z'.cells (ci.toNat * i'.size)
          rw [take_self _ this.1]
          exact this
        · cases h
      · cases h
    · cases h
  · cases h
def abound (x : Option AV) (d : Nat) : Option Nat :=
  match x with
  | none => some d
  | some (.iv (.lit (.int _ i))) => if 0 ≤ i then some i.toNat else none
  | _ => none
def aslice (tt : TT) (t : Nat) (x : AV) (lo hi : Option AV) : Option AV :=
  match tt t with
  | some ⟨.sl e, _, _, _⟩ => match tt e with
    | some r => match x with
      | .osl o off len sz => match abound hi len, abound lo 0 with
        | some h, some l => if l ≤ h ∧ h ≤ len ∧ sz = r.size then some (.osl o (off + l * sz) (h - l) sz) else none
        | _, _ => none
      | .iv (.sl get len sz) => match abound hi len, abound lo 0 with
        | some h, some l => if l ≤ h ∧ h ≤ len ∧ sz = r.size then some (.iv (.sl (fun j => get (l * sz + j)) (h - l) sz)) else none
        | _, _ => none
      | .iv (.lit (.slice none 0 0)) => match abound hi 0, abound lo 0 with
        | some h, some l => if h = 0 ∧ l = 0 then some x else none
        | _, _ => none
      | _ => none
    | none => none
  | some ⟨.str, _, _, _⟩ => match x with
    | .iv (.lit (.string b)) => match abound hi b.size, abound lo 0 with
      | some h, some l => if l ≤ h ∧ h ≤ b.size then some (lt (.string (b.extract l h))) else none
      | _, _ => none
    | _ => none
  | _ => none
theorem abound_none {d n : Nat} (h : abound none d = some n) : n = d := by simp [abound] at h; exact h.symm
theorem abound_some {x : AV} {d n : Nat} (h : abound (some x) d = some n) : ∃ k i, x = lt (.int k i) ∧ 0 ≤ i ∧ n = i.toNat := by
  unfold abound at h
  split at h
  · rename_i e; cases e
  · rename_i k i e
    simp only [Option.some.injEq] at e; subst e
    split at h
    · rename_i hi; simp only [Option.some.injEq] at h; exact ⟨k, i, rfl, hi, h.symm⟩
    · cases h
  · cases h
theorem sliceBound_run {k : IntKind} {i : Int} {y : Nat} {code : BoundsCode} (h0 : 0 ≤ i) (h1 : i.toNat ≤ y) (w : World) : (Instr.sliceBound (.int k i) y code).run P w = .ok i.toNat w := by
  have h : 0 ≤ i ∧ i ≤ (y : Int) := ⟨h0, by omega⟩
  simp [Instr.sliceBound, asIntOf, h]
theorem sliceBounds_run {G : Gh} {a : Act} {w : World} (hr : Rst G s a w) {lo hi : Option Operand} {b : Bool} {len cap l h : Nat} (hh : abound (hi.map s.ev) len = some h) (hl : abound (lo.map s.ev) 0 = some l) (h1 : l ≤ h) (h2 : h ≤ len) (h3 : len ≤ cap) :
    (Instr.sliceBounds b len cap (lo.map a.eval) (hi.map a.eval) none).run P w = .ok (l, h, cap) w := by
  have eh : (match hi.map a.eval with | some v => Instr.sliceBound v cap (if b then .sliceAcap else .sliceAlen) | none => pure len : Sem Nat).run P w = .ok h w := by
    cases hi with
    | none => have := abound_none hh; subst this; rfl
    | some x =>
      obtain ⟨k, i, e, h0, rfl⟩ := abound_some hh
      have e2 := hr.ev x; rw [e] at e2; have e2 := e2.lit_inv
      simp only [Option.map_some, e2]
      exact sliceBound_run h0 (by omega) w
  have el : (match lo.map a.eval with | some v => Instr.sliceBound v h .sliceB | none => pure 0 : Sem Nat).run P w = .ok l w := by
    cases lo with
    | none => have := abound_none hl; subst this; rfl
    | some x =>
      obtain ⟨k, i, e, h0, rfl⟩ := abound_some hl
      have e2 := hr.ev x; rw [e] at e2; have e2 := e2.lit_inv
      simp only [Option.map_some, e2]
      exact sliceBound_run h0 h1 w
  unfold Instr.sliceBounds
  cases hi with
  | none =>
    have := abound_none hh; subst this
    cases lo with
    | none => have := abound_none hl; subst this; rfl
    | some x => simp only [Option.map_some] at el; simp [el]
  | some y =>
    simp only [Option.map_some] at eh
    cases lo with
    | none => have := abound_none hl; subst this; simp [eh]
    | some x => simp only [Option.map_some] at el; simp [eh, el]
theorem slice_gives (hT : TyOK P tt) {t : TypeId} {x : Operand} {lo hi : Option Operand} {y : AV} (ho : o.op = .slice t x lo hi none) (h : aslice tt t (s.ev x) (lo.map s.ev) (hi.map s.ev) = some y) : Gives1 P s o y s.H := by
  unfold aslice at h
  split at h
  · rename_i e _ _ _ ht
    obtain ⟨ii, d, z, hi1, hd, hz, e1⟩ := hT.row ht
    simp only [TyRow.mk.injEq] at e1
    have hd' := kind_sl e1.1.symm; subst hd'
    split at h
    · rename_i r hr'
      obtain ⟨i', d', z', hi', hd', hz', rfl⟩ := hT.row hr'
      split at h
      · rename_i ob off len sz hx
        split at h
        · rename_i hb lb hhb hlb
          split at h
          · rename_i hc
            obtain ⟨c1, c2, c3⟩ := hc
            have c3 : sz = i'.size := c3
            simp only [Option.some.injEq] at h; subst h
            refine Gives1.same fun G a w hr => ?_
            have hx' := hr.ev x; rw [hx] at hx'
            generalize hav : a.eval x = xv at hx'
            cases hx' with
            | onil _ _ _ h1 =>
              have hsb := sliceBounds_run (P := P) hr (b := true) (cap := 0) hhb hlb c1 c2 (Nat.le_refl _)
              have hb0 : hb = 0 := by omega
              have lb0 : lb = 0 := by omega
              subst hb0 lb0
              exact ⟨_, by simp [execOp, ho, Instr.sliceAt, Instr.slice, hav, run_underlying hd, hsb, sizeOf_run hi'], .onil _ _ _ h1⟩
            | osl _ _ _ _ b q cap h1 h2 h3 h4 h5 h6 =>
              have hsb := sliceBounds_run (P := P) hr (b := true) hhb hlb c1 c2 h4
              refine ⟨.slice (if cap = lb then some ⟨b, q, none⟩ else some ⟨b, q + lb * i'.size, none⟩) (hb - lb) (cap - lb), ?_, ?_⟩
              · simp [execOp, ho, Instr.sliceAt, Instr.slice, hav, run_underlying hd, hsb, sizeOf_run hi', add_addr]
              · by_cases hm : cap = lb
                · rw [if_pos hm]
                  have hz0 : cap - lb = 0 := by omega
                  rw [hz0]
                  exact .osl _ _ _ _ _ _ _ h1 h2 (fun h => by omega) (by omega) (by unfold maxLen; omega) (fun h => by omega)
                · rw [if_neg hm]
                  have hp : 0 < cap := by omega
                  have hq := h3 hp
                  have h6' := h6 hp
                  refine .osl _ _ _ _ _ _ _ h1 h2 (fun _ => by rw [hq, c3, Nat.add_assoc]) (by omega) (by omega) (fun _ => ?_)
                  have : lb * sz + (cap - lb) * sz = cap * sz := by rw [← Nat.add_mul]; congr 1; omega
                  rw [← c3]; omega
          · cases h
        · cases h
      · rename_i get len sz hx
        split at h
        · rename_i hb lb hhb hlb
          split at h
          · rename_i hc
            obtain ⟨c1, c2, c3⟩ := hc
            have c3 : sz = i'.size := c3
            simp only [Option.some.injEq] at h; subst h
            refine Gives1.same fun G a w hr => ?_
            have hx' := hr.ev x; rw [hx] at hx'
            generalize hav : a.eval x = xv at hx'
            cases hx' with
            | iv _ _ hv =>
              cases hv with
              | nil _ _ cap hcap =>
                have hsb := sliceBounds_run (P := P) hr (b := true) (cap := cap) hhb hlb c1 c2 (Nat.zero_le _)
                have hb0 : hb = 0 := by omega
                have lb0 : lb = 0 := by omega
                subst hb0 lb0
                exact ⟨_, by simp [execOp, ho, Instr.sliceAt, Instr.slice, hav, run_underlying hd, hsb, sizeOf_run hi'], .iv _ _ (.nil _ _ cap hcap)⟩
              | empty _ _ ad cap hcap =>
                have hsb := sliceBounds_run (P := P) hr (b := true) hhb hlb c1 c2 (Nat.zero_le cap)
                have hb0 : hb = 0 := by omega
                have lb0 : lb = 0 := by omega
                subst hb0 lb0
                refine ⟨.slice (if cap = 0 then some ad else some (ad.add 0)) 0 cap, by simp [execOp, ho, Instr.sliceAt, Instr.slice, hav, run_underlying hd, hsb, sizeOf_run hi'], ?_⟩
                split <;> exact .iv _ _ (.empty _ _ _ _ hcap)
              | sl _ _ _ b q cap cs t' fr vs h1 h2 h3 h4 h5 =>
                have hsb := sliceBounds_run (P := P) hr (b := true) hhb hlb c1 c2 h4
                refine ⟨.slice (if cap = lb then some ⟨b, q, none⟩ else some ⟨b, q + lb * i'.size, none⟩) (hb - lb) (cap - lb), ?_, ?_⟩
                · simp [execOp, ho, Instr.sliceAt, Instr.slice, hav, run_underlying hd, hsb, sizeOf_run hi', add_addr]
                · by_cases hm : cap = lb
                  · rw [if_pos hm]
                    have e1 : hb - lb = 0 := by omega
                    rw [e1]
                    exact .iv _ _ (.empty _ _ _ _ (by omega))
                  · rw [if_neg hm]
                    have key : ∀ j, j < (hb - lb) * sz → lb * sz + j < len * sz := fun j hj => by
                      have : lb * sz + (hb - lb) * sz ≤ len * sz := by rw [← Nat.add_mul]; exact Nat.mul_le_mul_right sz (by omega)
                      omega
                    refine .iv _ _ (.sl _ _ _ b (q + lb * i'.size) (cap - lb) cs t' fr (fun j => vs (lb * sz + j)) h1 (fun j hj => ?_) (fun j hj => h3 _ (key j hj)) (by omega) (by omega))
                    rw [← c3, Nat.add_assoc]; exact h2 _ (key j hj)
          · cases h
        · cases h
      · rename_i hx
        split at h
        · rename_i hb lb hhb hlb
          split at h
          · rename_i hc
            obtain ⟨rfl, rfl⟩ := hc
            simp only [Option.some.injEq] at h; subst h
            refine Gives1.same fun G a w hr => ?_
            have hx' := hr.ev x; rw [hx] at hx'; have e2 := hx'.lit_inv
            have hsb := sliceBounds_run (P := P) hr (b := true) (cap := 0) hhb hlb (Nat.le_refl _) (Nat.zero_le _) (Nat.le_refl _)
            exact ⟨.slice none 0 0, by simp [execOp, ho, Instr.sliceAt, Instr.slice, e2, run_underlying hd, hsb, sizeOf_run hi'], by rw [hx]; exact .iv _ _ (.lit _)⟩
          · cases h
        · cases h
      · cases h
    · cases h
  · rename_i ht
    obtain ⟨ii, d, z, hi1, hd, hz, e1⟩ := hT.row ht
    simp only [TyRow.mk.injEq] at e1
    have hd' := kind_str e1.1.symm; subst hd'
    split at h
    · rename_i b hx
      split at h
      · rename_i hb lb hhb hlb
        split at h
        · rename_i hc
          simp only [Option.some.injEq] at h; subst h
          refine Gives1.same fun G a w hr => ?_
          have hx' := hr.ev x; rw [hx] at hx'; have e2 := hx'.lit_inv
          have hsb := sliceBounds_run (P := P) hr (b := false) hhb hlb hc.1 hc.2 (Nat.le_refl _)
          exact ⟨_, by simp [execOp, ho, Instr.sliceAt, Instr.slice, e2, run_underlying hd, hsb], .iv _ _ (.lit _)⟩
        · cases h
      · cases h
    · cases h
  · cases h
end
end Go.Proofs.YtghdacijcnmhlaaDoor
