import Derived.Test.YtghdacijcnmhlaaDoorMgAE
import Derived.Deep.AppendLies
import Derived.Test.YtghdacijcnmhlaaDoorMgAA
namespace Go.Proofs.YtghdacijcnmhlaaDoor
open Go.RowKit
set_option linter.unusedVariables false
set_option linter.unusedSimpArgs false
section
variable {P : Program} {tt : TT} {ops : Array Oper}
theorem aop_ro {s : AS} {o : Oper} {x : AV} {H' : AHeap} (hr : roOp o.op = true) (h : aop tt s o = some (x, H')) : H' = s.H := by
  obtain ⟨dst, op, type, pos, after, guard⟩ := o
  cases op <;> simp only [roOp, Bool.false_eq_true] at hr <;> simp only [aop] at h
  case call c =>
    obtain ⟨callee, args, tys⟩ := c
    cases callee with
    | builtin b =>
      simp only [] at h
      unfold abuiltin at h
      cases b <;> simp only [roOp, Bool.false_eq_true, reduceCtorEq] at hr <;> (split at h) <;> (try cases h) <;> (try (simp only [Option.map_eq_some_iff, Prod.mk.injEq] at h; obtain ⟨_, _, _, e⟩ := h; exact e.symm)) <;> simp_all
    | _ => simp at h
  all_goals (try (simp only [Option.map_eq_some_iff, Prod.mk.injEq] at h; obtain ⟨_, _, _, e⟩ := h; exact e.symm))
  all_goals (try (simp only [Option.some.injEq, Prod.mk.injEq] at h; exact h.2.symm))
  all_goals (try (split at h <;> first | (cases h; done) | (simp only [Option.some.injEq, Prod.mk.injEq] at h; exact h.2.symm) | (simp only [Option.map_eq_some_iff, Prod.mk.injEq] at h; obtain ⟨_, _, _, e⟩ := h; exact e.symm)))
  all_goals (cases h)
def ADS (P : Program) (ops : Array Oper) (n0 : Nat) (H0 : AHeap) : List Nat → (List AV → AHeap → Prop) → List Oper → List Kd → List AV → AHeap → Prop
  | _, K, [], _, fr, Hc => K fr Hc
  | us, K, o :: l, al, fr, Hc => ∃ x H' lf, OpOK P ops o fr H0 Hc x H' (al.headD .free) lf ∧ match lf with
    | none => ADS P ops n0 H0 us K l al.tail (putL fr o.dst x) H'
    | some (q, obj) => H0[q]? = some none ∧ n0 ≤ q ∧ q ∉ us ∧ ADS P ops n0 H0 (q :: us) (fun F H => K F (H.set q (some obj))) l al.tail (putL fr o.dst x) H'
theorem OpOK.pre {o : Oper} {fr : List AV} {H0 Hc H' : AHeap} {x : AV} {b : Kd} {lf : Option (Nat × AObj)} (h : OpOK P ops o fr H0 Hc x H' b lf) : Hc.length ≤ H'.length := by
  cases h with
  | grow _ new => simp
  | chg _ _ _ h => exact h
  | new _ _ _ h => exact h
  | _ => exact Nat.le_refl _
def consF {α : Type} (x : α) (f : Nat → α) : Nat → α | 0 => x | j + 1 => f j
theorem ADS.fns {n0 : Nat} {H0 : AHeap} : ∀ {l : List Oper} {us : List Nat} {K : List AV → AHeap → Prop} {al : List Kd} {fr : List AV} {Hc : AHeap}, ADS P ops n0 H0 us K l al fr Hc → H0.length ≤ Hc.length →
    ∃ (X : Nat → AV) (F : Nat → List AV) (Hh : Nat → AHeap) (Lf : Nat → Option (Nat × AObj)) (HF : AHeap), F 0 = fr ∧ Hh 0 = Hc ∧ K (F l.length) HF ∧ (∀ j o, l[j]? = some o → OpOK P ops o (F j) H0 (Hh j) (X j) (Hh (j + 1)) (al.getD j .free) (Lf j) ∧ F (j + 1) = putL (F j) o.dst (X j)) ∧
      LfOK l.length Lf H0 n0 ∧ (∀ j q obj, j < l.length → Lf j = some (q, obj) → q ∉ us) ∧ HR l.length Lf (Hh l.length) (fun _ => true) HF ∧ H0.length ≤ (Hh l.length).length
  | [], us, K, al, fr, Hc, h, hp => ⟨fun _ => uD, fun _ => fr, fun _ => Hc, fun _ => none, Hc, rfl, rfl, h, fun j o e => by simp at e, ⟨fun j q obj h1 h2 => by simp at h1, fun i j p q ob obj h1 => by simp at h1⟩, fun j q obj h1 => by simp at h1, ⟨rfl, fun _ _ => rfl, fun j q obj h1 => by simp at h1⟩, hp⟩
  | o :: l, us, K, al, fr, Hc, h, hp => by
    obtain ⟨x, H', lf, h1, h2⟩ := h
    have hp' : H0.length ≤ H'.length := Nat.le_trans hp h1.pre
    have steps : ∀ (X : Nat → AV) (F : Nat → List AV) (Hh : Nat → AHeap) (Lf : Nat → Option (Nat × AObj)), F 0 = putL fr o.dst x → Hh 0 = H' → (∀ j o, l[j]? = some o → OpOK P ops o (F j) H0 (Hh j) (X j) (Hh (j + 1)) (al.tail.getD j .free) (Lf j) ∧ F (j + 1) = putL (F j) o.dst (X j)) →
        ∀ j o', (o :: l)[j]? = some o' → OpOK P ops o' (consF fr F j) H0 (consF Hc Hh j) (consF x X j) (consF Hc Hh (j + 1)) (al.getD j .free) (consF lf Lf j) ∧ consF fr F (j + 1) = putL (consF fr F j) o'.dst (consF x X j) := fun X F Hh Lf e1 e2 e4 j o' e => by
      cases j with
      | zero =>
        simp only [List.getElem?_cons_zero, Option.some.injEq] at e; subst e
        refine ⟨?_, e1⟩
        show OpOK P ops o fr H0 Hc x (Hh 0) (al.getD 0 .free) lf
        rw [e2]
        cases al <;> exact h1
      | succ j =>
        simp only [List.getElem?_cons_succ] at e
        have := e4 j o' e
        cases al <;> exact this
    cases lf with
    | none =>
      obtain ⟨X, F, Hh, Lf, HF, e1, e2, e3, e4, e5, e6, e7, e8⟩ := ADS.fns h2 hp'
      refine ⟨consF x X, consF fr F, consF Hc Hh, consF none Lf, HF, rfl, rfl, e3, steps X F Hh Lf e1 e2 e4, ⟨fun j q obj k1 k2 => ?_, fun i j p q ob obj k1 k2 k3 k4 k5 => ?_⟩, fun j q obj k1 k2 => ?_, ⟨e7.len, fun o ho => e7.old o fun j q obj k1 k2 => ho (j + 1) q obj (by simp; omega) k2, fun j q obj k1 k2 => ?_⟩, e8⟩
      · cases j with
        | zero => cases k2
        | succ j => exact e5.none j q obj (by simp at k1; omega) k2
      · cases i with
        | zero => cases k4
        | succ i =>
          cases j with
          | zero => cases k5
          | succ j => exact e5.inj i j p q ob obj (by simp at k1; omega) (by simp at k2; omega) (by omega) k4 k5
      · cases j with
        | zero => cases k2
        | succ j => exact e6 j q obj (by simp at k1; omega) k2
      · cases j with
        | zero => cases k2
        | succ j => exact e7.leaf j q obj (by simp at k1; omega) k2
    | some qo =>
      obtain ⟨q0, obj0⟩ := qo
      obtain ⟨g1, g2, g3, h2⟩ := h2
      obtain ⟨X, F, Hh, Lf, HF, e1, e2, e3, e4, e5, e6, e7, e8⟩ := ADS.fns h2 hp'
      have hlt : q0 < HF.length := by
        have := (List.getElem?_eq_some_iff.1 g1).1
        rw [e7.len]; omega
      have hne : ∀ j q obj, j < l.length → Lf j = some (q, obj) → q ≠ q0 := fun j q obj k1 k2 e => e6 j q obj k1 k2 (by rw [e]; simp)
      refine ⟨consF x X, consF fr F, consF Hc Hh, consF (some (q0, obj0)) Lf, HF.set q0 (some obj0), rfl, rfl, e3, steps X F Hh Lf e1 e2 e4, ⟨fun j q obj k1 k2 => ?_, fun i j p q ob obj k1 k2 k3 k4 k5 => ?_⟩, fun j q obj k1 k2 => ?_, ⟨by rw [List.length_set]; exact e7.len, fun o ho => ?_, fun j q obj k1 k2 => ?_⟩, e8⟩
      · cases j with
        | zero => simp only [consF, Option.some.injEq, Prod.mk.injEq] at k2; obtain ⟨rfl, rfl⟩ := k2; exact ⟨g1, g2⟩
        | succ j => exact e5.none j q obj (by simp at k1; omega) k2
      · cases i with
        | zero =>
          simp only [consF, Option.some.injEq, Prod.mk.injEq] at k4; obtain ⟨rfl, rfl⟩ := k4
          cases j with
          | zero => exact absurd rfl k3
          | succ j => exact (hne j q obj (by simp at k2; omega) k5).symm
        | succ i =>
          cases j with
          | zero => simp only [consF, Option.some.injEq, Prod.mk.injEq] at k5; obtain ⟨rfl, rfl⟩ := k5; exact hne i p ob (by simp at k1; omega) k4
          | succ j => exact e5.inj i j p q ob obj (by simp at k1; omega) (by simp at k2; omega) (by omega) k4 k5
      · cases j with
        | zero => simp only [consF, Option.some.injEq, Prod.mk.injEq] at k2; obtain ⟨rfl, rfl⟩ := k2; exact g3
        | succ j => exact fun hu => e6 j q obj (by simp at k1; omega) k2 (List.mem_cons_of_mem _ hu)
      · rw [List.getElem?_set_ne (Ne.symm (ho 0 q0 obj0 (by simp) rfl))]
        exact e7.old o fun j q obj k1 k2 => ho (j + 1) q obj (by simp; omega) k2
      · cases j with
        | zero =>
          simp only [consF, Option.some.injEq, Prod.mk.injEq] at k2; obtain ⟨rfl, rfl⟩ := k2
          rw [List.getElem?_set_self hlt]; rfl
        | succ j =>
          have hj : j < l.length := by simp at k1; omega
          rw [List.getElem?_set_ne (Ne.symm (hne j q obj hj k2))]
          exact e7.leaf j q obj hj k2
def extH : Nat → AHeap → AHeap
  | 0, H => H
  | k + 1, H => extH k H ++ [none]
theorem extH_len (H : AHeap) : ∀ k, (extH k H).length = H.length + k
  | 0 => rfl
  | k + 1 => by show (extH k H ++ [none]).length = _; rw [List.length_append, extH_len H k]; simp; omega
theorem Inv.extends {G : Gh} {H : AHeap} {w : World} (h : Inv G H w) : ∀ k, Inv G (extH k H) w
  | 0 => h
  | k + 1 => (h.extends k).extend
theorem AW_drawL {s : AS} {Q : Exit → AS → Prop} (hm : P.follows .mixedOrders = true) {id : Nat} {ops : List Oper} (N : Nat) (k : Nat) (al : List Kd) (hord : ordOK ops.toArray N al = true)
    (h : ∀ K : List AV → AHeap → Prop, (∀ F H', AL P ops.toArray (ops.drop N) Q ⟨F, H'⟩ → K F H') → ADS P ops.toArray s.H.length (extH k s.H) [] K (ops.take N) al s.fr (extH k s.H)) : AW P (.region id ops.toArray true) Q s := fun G a w hr => by
  have ord := ord_of hord
  have hN : N ≤ ops.length := by simpa using ord.le_size
  obtain ⟨X, F, Hh, Lf, HF, e1, e2, e3, e4, e5, e6, e7, e8⟩ := (h (fun F H' => AL P ops.toArray (ops.drop N) Q ⟨F, H'⟩) fun _ _ h => h).fns (Nat.le_refl _)
  have hl : (ops.take N).length = N := by simp [hN]
  rw [hl] at e3 e5 e7
  have st : Steps1 P ops.toArray N al X F Hh Lf := ⟨fun j o hj ho => by
    have : (ops.take N)[j]? = some o := by rw [List.getElem?_take_of_lt hj]; simpa using ho
    have := e4 j o this
    rw [e2]; exact this⟩
  have hlen := extH_len s.H k
  have hout : ∀ q, s.H.length ≤ q → ¬ G.dom q := fun q hq hd => by have := hr.inv.dom q hd; omega
  refine wp_region_any hm ?_
  have key := any_main (G0 := G) (n0 := s.H.length) ord st (Q := Q) (by rw [e2]; exact e5) (HF := HF) e7 (by simpa using e3) ops.toArray.size (Array.replicate ops.toArray.size false) a { w with drawn := w.drawn + 1 } G 0 (extH k s.H) ?_ (fun j q obj h1 h2 _ => hout q (e5.none j q obj h1 h2).2) ?_ ?_ ?_ hr.defers ?_ (Nat.zero_le _) ?_ ?_ (Gh.le.refl _ _) ?_
  · exact key
  · rw [e2]
    refine ⟨rfl, fun _ _ => rfl, fun j q obj h1 h2 => ?_⟩
    rw [(e5.none j q obj h1 h2).1]; simp [Array.getD]
  · simp [left]
  · refine ⟨by simp, fun j hj => ?_⟩
    simp [Array.getD] at hj
  · intro j hj; simp [Array.getD]
  · refine ⟨by rw [e1]; have := hr.fr.1; simp at this; exact this.symm, fun t j ht hj hl => ?_, fun t ht _ => ?_⟩
    · simp [Array.getD] at hl
    · rw [e1, e2, arr_getD]; exact (hr.fr.getD t).mono (Gh.le.refl 0 G) (by omega)
  · intro j hj ha
    simp [Array.getD]
  · exact (hr.inv.extends k).drew
  · rw [e2]; omega
theorem AW_draw {s : AS} {Q : Exit → AS → Prop} (hm : P.follows .mixedOrders = true) {id : Nat} {ops : List Oper} (N : Nat) (al : List Kd) (hord : ordOK ops.toArray N al = true)
    (h : ∀ K : List AV → AHeap → Prop, (∀ F H', AL P ops.toArray (ops.drop N) Q ⟨F, H'⟩ → K F H') → ADS P ops.toArray s.H.length s.H [] K (ops.take N) al s.fr s.H) : AW P (.region id ops.toArray true) Q s := AW_drawL hm N 0 al hord h
theorem lt_one_i (k : IntKind) (x : Int) : AV.one (lt (.int k x)) = true := rfl
theorem lt_one_b (b : Bool) : AV.one (lt (.bool b)) = true := rfl
theorem lt_one_n (a : Option Addr) (n m : Nat) : AV.one (lt (.slice a n m)) = true := rfl
def isApp : Op → Bool
  | .call c => match c.callee with | .builtin .append => true | _ => false
  | .store _ _ _ => true
  | _ => false
def kdOf (c : Bool) : Op → Kd
  | .load _ _ => .read
  | .store _ _ _ => .chg
  | .alloc _ | .box _ _ | .buildSlice _ _ _ | .makeSlice _ _ _ => if c = true then .grow else .leaf
  | .call c => match c.callee with
    | .builtin .append => .chg
    | .builtin _ => .free
    | _ => .grow
  | _ => .free
def alD (ops : List Oper) : List Kd := ops.map fun o => kdOf (ops.any fun o => isApp o.op) o.op
theorem looks_strip {ops : List Oper} {n : Nat} (hn : topD (dsts ops) ≤ n) (o : Oper) : (strip (dsts ops) o).looksAt (idB n) = o.looksAt ops.toArray := by
  unfold Oper.looksAt
  rw [strip_guard]
  show _ ++ _ = _ ++ _
  congr 1
  cases o.guard with
  | none => rfl
  | some jw => simp only [Option.map_some, slot_at hn]
theorem awanted_strip {ops : List Oper} {n : Nat} (hn : topD (dsts ops) ≤ n) (o : Oper) (s : AS) : AS.wanted s (idB n) (strip (dsts ops) o) = AS.wanted s ops.toArray o := by
  unfold AS.wanted
  rw [strip_guard]
  cases o.guard with
  | none => rfl
  | some jw =>
    obtain ⟨j, want⟩ := jw
    simp only [Option.map_some, slot_at hn]
theorem does_strip {ops : List Oper} {n : Nat} (hn : topD (dsts ops) ≤ n) {o : Oper} {fr : List AV} {H H' : AHeap} {x : AV} (h : Does P (idB n) (strip (dsts ops) o) fr H x H') : Does P ops.toArray o fr H x H' := by
  intro Q G a w K hi hl hk
  rw [← wp_strip (dsts ops)]
  exact h Q G a w K hi ⟨hl.1, fun t ht => hl.2 t (by rw [← looks_strip hn]; exact ht)⟩ hk
theorem leaf_strip {ops : List Oper} {n : Nat} (hn : topD (dsts ops) ≤ n) {o : Oper} {fr : List AV} {q : Nat} {obj : AObj} {x : AV} (h : LeafDoes P (idB n) (strip (dsts ops) o) fr q obj x) : LeafDoes P ops.toArray o fr q obj x := by
  intro H Q G a w K hq hd hi hl hk
  rw [← wp_strip (dsts ops)]
  exact h H Q G a w K hq hd hi ⟨hl.1, fun t ht => hl.2 t (by rw [← looks_strip hn]; exact ht)⟩ hk
theorem opok_strip {ops : List Oper} {n : Nat} (hn : topD (dsts ops) ≤ n) {o : Oper} {fr : List AV} {H0 Hc H' : AHeap} {x : AV} {b : Kd} {lf : Option (Nat × AObj)} (h : OpOK P (idB n) (strip (dsts ops) o) fr H0 Hc x H' b lf) : OpOK P ops.toArray o fr H0 Hc x H' b lf := by
  cases h with
  | skip k h1 h2 => exact .skip _ h1 (by rw [← awanted_strip hn]; exact h2)
  | free x h1 h2 => exact .free _ (by rw [← awanted_strip hn]; exact h1) fun H => does_strip hn (h2 H)
  | pure x h1 h2 => exact .pure _ (by rw [← awanted_strip hn]; exact h1) fun H hs => does_strip hn (h2 H hs)
  | grow x new h1 h2 => exact .grow _ _ (by rw [← awanted_strip hn]; exact h1) fun H hs hl => does_strip hn (h2 H hs hl)
  | leaf q obj x h1 h2 => exact .leaf _ _ _ (by rw [← awanted_strip hn]; exact h1) (leaf_strip hn h2)
  | chg x H' h1 h2 h3 => exact .chg _ _ (by rw [← awanted_strip hn]; exact h1) h2 (does_strip hn h3)
  | new x H' h1 h2 h3 h4 => exact .new _ _ (by rw [← awanted_strip hn]; exact h1) h2 h3 (does_strip hn h4)
theorem ADS_strip1 {ops : List Oper} {n : Nat} (hn : topD (dsts ops) ≤ n) {n0 : Nat} {H0 : AHeap} : ∀ {l : List Oper} {us : List Nat} {K : List AV → AHeap → Prop} {al : List Kd} {fr : List AV} {Hc : AHeap}, ADS P (idB n) n0 H0 us K (l.map (strip (dsts ops))) al fr Hc → ADS P ops.toArray n0 H0 us K l al fr Hc
  | [], us, K, al, fr, Hc, h => h
  | o :: l, us, K, al, fr, Hc, h => by
    obtain ⟨x, H', lf, h1, h2⟩ := h
    refine ⟨x, H', lf, opok_strip hn h1, ?_⟩
    cases lf with
    | none => exact ADS_strip1 hn h2
    | some qo => obtain ⟨q, obj⟩ := qo; exact ⟨h2.1, h2.2.1, h2.2.2.1, ADS_strip1 hn h2.2.2.2⟩
theorem putL_len (fr : List AV) (d : Option Tmp) (x : AV) : (putL fr d x).length = fr.length := by unfold putL; cases d <;> simp
def alF (ops : List Oper) : List Kd := ops.map fun o => match o.op with | .load _ _ => .read | _ => .free
def drun (tt : TT) (H0 : AHeap) : List Oper → List Kd → List AV → List Oper × List Kd × List AV
  | [], al, fr => ([], al, fr)
  | o :: l, al, fr => match al.headD .free, wantedS fr o with
    | .free, some false => drun tt H0 l al.tail (putL fr o.dst uD)
    | .read, some false => drun tt H0 l al.tail (putL fr o.dst uD)
    | .free, some true => match freeOp o.op with
      | true => match aop tt ⟨fr, H0⟩ o with
        | some (x, _) => drun tt H0 l al.tail (putL fr o.dst x)
        | none => (o :: l, al, fr)
      | false => (o :: l, al, fr)
    | .read, some true => match roOp o.op with
      | true => match aop tt ⟨fr, H0⟩ o with
        | some (x, _) => drun tt H0 l al.tail (putL fr o.dst x)
        | none => (o :: l, al, fr)
      | false => (o :: l, al, fr)
    | _, _ => (o :: l, al, fr)
section
variable {n0 : Nat} {us : List Nat}
def ADR (P : Program) (n0 : Nat) (us : List Nat) (H0 : AHeap) (K : List AV → AHeap → Prop) (Hc : AHeap) (p : List Oper × List Kd × List AV) : Prop := ∀ n, p.2.2.length ≤ n → ADS P (idB n) n0 H0 us K p.1 p.2.1 p.2.2 Hc
theorem ADS_strip {ops l : List Oper} {H0 : AHeap} {K : List AV → AHeap → Prop} {al : List Kd} {fr : List AV} {Hc : AHeap} (h : ADR P n0 us H0 K Hc (l.map (strip (dsts ops)), al, fr)) : ADS P ops.toArray n0 H0 us K l al fr Hc :=
  ADS_strip1 (n := max fr.length (topD (dsts ops))) (Nat.le_max_right _ _) (h _ (Nat.le_max_left _ _))
theorem wanted_iff {n : Nat} {fr : List AV} {H0 : AHeap} {o : Oper} {b : Bool} (hn : fr.length ≤ n) (h : wantedS fr o = some b) : AS.wanted ⟨fr, H0⟩ (idB n) o = some b := by rw [wantedS_ok hn]; exact h
theorem ADR_nil {H0 : AHeap} {K : List AV → AHeap → Prop} {Hc : AHeap} {al : List Kd} {fr : List AV} (h : K fr Hc) : ADR P n0 us H0 K Hc ([], al, fr) := fun _ _ => h
end
end
end Go.Proofs.YtghdacijcnmhlaaDoor
namespace Go.Proofs.YtghdacijcnmhlaaDoor
open Go.RowKit
set_option linter.unusedVariables false
set_option linter.unusedSimpArgs false
section
variable {P : Program} {tt : TT}
inductive Ids (n : Nat) : AV → Prop
  | iv (x : IV) : Ids n (.iv x)
  | agg (xs : List AV) : (∀ (i : Nat) (x : AV), xs[i]? = some x → Ids n x) → Ids n (.agg xs)
  | tup (xs : List AV) : (∀ (i : Nat) (x : AV), xs[i]? = some x → Ids n x) → Ids n (.tup xs)
  | osl (o off len sz : Nat) : o < n → Ids n (.osl o off len sz)
  | optr (o off : Nat) : o < n → Ids n (.optr o off)
  | xptr (o sz : Nat) : o < n → Ids n (.xptr o sz)
  | fn (f : FuncId) (first caps : List AV) : (∀ (i : Nat) (x : AV), first[i]? = some x → Ids n x) → (∀ (i : Nat) (x : AV), caps[i]? = some x → Ids n x) → Ids n (.fn f first caps)
theorem RA.undom {n m k : Nat} {G : Gh} {dom' : Nat → Prop} (hd : ∀ o, o < k → G.dom o → dom' o) {x : AV} {v : Value} (h : RA m G x v) (hi : Ids k x) : RA n { G with dom := dom' } x v := by
  induction h with
  | iv x v h => exact .iv x v h
  | agg xs vs h1 h2 h3 ih => cases hi with | agg _ hi => exact .agg xs vs h1 (fun i x v e e' => ih i x v e e' (hi i x e)) h3
  | tup xs vs h1 h2 ih => cases hi with | tup _ hi => exact .tup xs vs h1 fun i x v e e' => ih i x v e e' (hi i x e)
  | osl o off len sz b a cap h1 h2 h3 h4 h5 h6 => cases hi with | osl _ _ _ _ h => exact .osl o off len sz b a cap (hd o h h1) h2 h3 h4 h5 h6
  | onil o off sz h1 => cases hi with | osl _ _ _ _ h => exact .onil o off sz (hd o h h1)
  | optr o off h1 => cases hi with | optr _ _ h => exact RA.optr (G := { G with dom := dom' }) o off (hd o h h1)
  | xptr o sz h1 h2 h3 => cases hi with | xptr _ _ h => exact RA.xptr (G := { G with dom := dom' }) o sz (hd o h h1) h2 h3
  | fn f first caps vs us h1 h2 h3 h4 ih1 ih2 => cases hi with | fn _ _ _ k1 k2 => exact .fn f first caps vs us h1 h2 (fun i x v e e' => ih1 i x v e e' (k1 i x e)) (fun i x v e e' => ih2 i x v e e' (k2 i x e))
inductive NoImm : AV → Prop
  | lit (v : Value) : NoImm (lt v)
  | agg (xs : List AV) : (∀ (i : Nat) (x : AV), xs[i]? = some x → NoImm x) → NoImm (.agg xs)
  | tup (xs : List AV) : (∀ (i : Nat) (x : AV), xs[i]? = some x → NoImm x) → NoImm (.tup xs)
  | osl (o off len sz : Nat) : NoImm (.osl o off len sz)
  | optr (o off : Nat) : NoImm (.optr o off)
  | xptr (o sz : Nat) : NoImm (.xptr o sz)
  | fn (f : FuncId) (first caps : List AV) : (∀ (i : Nat) (x : AV), first[i]? = some x → NoImm x) → (∀ (i : Nat) (x : AV), caps[i]? = some x → NoImm x) → NoImm (.fn f first caps)
mutual
def AV.ren (k : Nat) : AV → AV
  | .iv x => .iv x
  | .agg xs => .agg (renL k xs)
  | .tup xs => .tup (renL k xs)
  | .osl o off len sz => .osl (k + o) off len sz
  | .optr o off => .optr (k + o) off
  | .xptr o sz => .xptr (k + o) sz
  | .fn f first caps => .fn f (renL k first) (renL k caps)
def renL (k : Nat) : List AV → List AV
  | [] => []
  | x :: xs => x.ren k :: renL k xs
end
theorem renL_map (k : Nat) (xs : List AV) : renL k xs = xs.map (AV.ren k) := by
  induction xs with
  | nil => rfl
  | cons x xs ih => simp [renL, ih]
theorem ren_one (k : Nat) (x : AV) : (x.ren k).one = x.one := by cases x <;> simp [AV.ren, AV.one]
theorem renL_one (k : Nat) (xs : List AV) : (renL k xs).all AV.one = xs.all AV.one := by
  rw [renL_map, List.all_map]; congr 1; funext x; exact ren_one k x
theorem RA.ren {n m k : Nat} {G G' : Gh} {x : AV} {v : Value} (h : RA n G x v) (hdom : ∀ o, G.dom o → G'.dom (k + o)) (hmu : ∀ o, G.dom o → G'.mu (k + o) = G.mu o) (hsz : ∀ o, G.dom o → G'.sz (k + o) = G.sz o) (hfz : (∀ b y, G.fz b = some y → G'.fz b = some y) ∨ NoImm x) : RA m G' (x.ren k) v := by
  induction h with
  | iv x v h =>
    refine .iv x v ?_
    rcases hfz with hfz | hfz
    · exact h.mono hfz
    · cases hfz; cases h; exact .lit _
  | agg xs vs h1 h2 h3 ih =>
    unfold AV.ren
    refine .agg _ _ (by rw [renL_map, List.length_map]; exact h1) (fun i y u e e' => ?_) (by rw [renL_one]; exact h3)
    rw [renL_map, List.getElem?_map] at e
    obtain ⟨z, hz, rfl⟩ := Option.map_eq_some_iff.1 e
    exact ih i z u hz e' (hfz.imp id fun h => by cases h with | agg _ h => exact h i z hz)
  | tup xs vs h1 h2 ih =>
    unfold AV.ren
    refine .tup _ _ (by rw [renL_map, List.length_map]; exact h1) (fun i y u e e' => ?_)
    rw [renL_map, List.getElem?_map] at e
    obtain ⟨z, hz, rfl⟩ := Option.map_eq_some_iff.1 e
    exact ih i z u hz e' (hfz.imp id fun h => by cases h with | tup _ h => exact h i z hz)
  | osl o off len sz b a cap h1 h2 h3 h4 h5 h6 => exact .osl _ _ _ _ _ _ _ (hdom o h1) (by rw [hmu o h1]; exact h2) (by rw [hmu o h1]; exact h3) h4 h5 (by rw [hsz o h1]; exact h6)
  | onil o off sz h1 => exact .onil _ _ _ (hdom o h1)
  | optr o off h1 => unfold AV.ren; rw [← hmu o h1]; exact .optr _ _ (hdom o h1)
  | xptr o sz h1 h2 h3 => unfold AV.ren; rw [← hmu o h1]; exact .xptr _ _ (hdom o h1) (by rw [hmu o h1]; exact h2) (by rw [hsz o h1]; exact h3)
  | fn f first caps vs us h1 h2 h3 h4 ih1 ih2 =>
    unfold AV.ren
    refine .fn f _ _ _ _ (by rw [renL_map, List.length_map]; exact h1) (by rw [renL_map, List.length_map]; exact h2) (fun i y u e e' => ?_) (fun i y u e e' => ?_)
    · rw [renL_map, List.getElem?_map] at e
      obtain ⟨z, hz, rfl⟩ := Option.map_eq_some_iff.1 e
      exact ih1 i z u hz e' (hfz.imp id fun h => by cases h with | fn _ _ _ h _ => exact h i z hz)
    · rw [renL_map, List.getElem?_map] at e
      obtain ⟨z, hz, rfl⟩ := Option.map_eq_some_iff.1 e
      exact ih2 i z u hz e' (hfz.imp id fun h => by cases h with | fn _ _ _ _ h => exact h i z hz)
def renH (k : Nat) (H : AHeap) : AHeap := H.map fun x => x.map fun y => ⟨y.t, renL k y.cells⟩
abbrev PF (P : Program) (f : FuncId) (args : List AV) (Q : AV → AHeap → Prop) : Prop := SF P f args [] Q
theorem SF.forgetAll {f : FuncId} {args : List AV} {Q : AV → AHeap → Prop} (h : PF P f args fun r _ => Ids 0 r ∧ Q r []) : PF P f args Q :=
  ⟨h.callable, fun G w vs hi hr => (h.calls G w vs hi hr).mono fun e w' ⟨v, r, G', H', h1, h2, h3, h4, h5, h6, h7⟩ =>
    ⟨v, r, { G' with dom := fun _ => False }, [], h1, ⟨h2.mu, h2.sz, fun o ho => absurd (hi.dom o ho) (by simp), fun o ho => absurd ho (by simp), h2.fz, h2.kp, h2.new, h2.os, h2.tape, h2.output⟩, Nat.zero_le _, ⟨h4.os, h4.tape, h4.output, h4.fz, h4.kp, fun o ho => ho.elim, fun o x e => by simp at e, fun o x e => by simp at e, fun o o' x x' e => by simp at e⟩, h5.undom (k := 0) (fun o ho => by omega) h6, h7⟩⟩
theorem RA.kpany {n : Nat} {G : Gh} {kp : Nat → Option Obj} {x : AV} {v : Value} (r : RA n G x v) : RA n { G with kp := kp } x v := by
  induction r with
  | iv x v hr => exact .iv x v hr
  | agg xs vs h1 h2 h3 ih => exact .agg xs vs h1 ih h3
  | tup xs vs h1 h2 ih => exact .tup xs vs h1 ih
  | osl o off len sz b a cap h1 h2 h3 h4 h5 h6 => exact .osl o off len sz b a cap h1 h2 h3 h4 h5 h6
  | onil o off sz h1 => exact .onil o off sz h1
  | optr o off h1 => exact RA.optr (G := { G with kp := kp }) o off h1
  | xptr o sz h1 h2 h3 => exact RA.xptr (G := { G with kp := kp }) o sz h1 h2 h3
  | fn f first caps vs us h1 h2 h3 h4 ih1 ih2 => exact .fn f first caps vs us h1 h2 ih1 ih2
theorem PF.among {f : FuncId} {args : List AV} {H : AHeap} {Q : AV → AHeap → Prop} (hargs : ∀ x ∈ args, Ids 0 x) (h : PF P f args Q) : SF P f args H (fun r H' => ∃ r1 H1, Q r1 H1 ∧ r = r1.ren H.length ∧ H' = H ++ renH H.length H1) := by
  refine ⟨h.callable, fun G w vs hi hr => ?_⟩
  let G1 : Gh := { G with kp := fun b => w.heap[b]?, dom := fun _ => False }
  have hi1 : Inv G1 [] w := ⟨hi.os, hi.tape, hi.output, hi.fz, fun b x e => e, fun o ho => ho.elim, fun o x e => by simp at e, fun o x e => by simp at e, fun o o' x x' e => by simp at e⟩
  have hr1 : RL 0 G1 args vs := ⟨hr.1, fun i x v e e' => by
    have h1 := (hr.2 i x v e e').undom (n := 0) (k := 0) (dom' := fun _ => False) (fun o ho => by omega) (hargs x (List.mem_iff_getElem?.2 ⟨i, e⟩))
    exact RA.kpany h1⟩
  refine (h.calls G1 w vs hi1 hr1).mono fun e w' ⟨v, r1, G1', H1, e1, hle, _, hi', hx, hq⟩ => ?_
  let G' : Gh := { G1' with dom := fun o => if o < H.length then G.dom o else G1'.dom (o - H.length), mu := fun o => if o < H.length then G.mu o else G1'.mu (o - H.length), sz := fun o => if o < H.length then G.sz o else G1'.sz (o - H.length), kp := G.kp }
  have hdm : ∀ o, G'.dom (H.length + o) ↔ G1'.dom o := fun o => by show (if H.length + o < H.length then _ else _) ↔ _; rw [if_neg (by omega), Nat.add_sub_cancel_left]
  have hdm0 : ∀ o, o < H.length → (G'.dom o ↔ G.dom o) := fun o h => by show (if o < H.length then _ else _) ↔ _; rw [if_pos h]
  have hmu : ∀ o, G'.mu (H.length + o) = G1'.mu o := fun o => by show (if H.length + o < H.length then _ else _) = _; rw [if_neg (by omega), Nat.add_sub_cancel_left]
  have hsz : ∀ o, G'.sz (H.length + o) = G1'.sz o := fun o => by show (if H.length + o < H.length then _ else _) = _; rw [if_neg (by omega), Nat.add_sub_cancel_left]
  have hmu0 : ∀ o, o < H.length → G'.mu o = G.mu o := fun o h => if_pos h
  have hsz0 : ∀ o, o < H.length → G'.sz o = G.sz o := fun o h => if_pos h
  have hold : ∀ b x, w.heap[b]? = some x → w'.heap[b]? = some x := fun b x e => hi'.kp b x (hle.kp b x e)
  have hleG : Gh.le H.length G G' := ⟨fun o ho => hmu0 o (hi.dom o ho), fun o ho => hsz0 o (hi.dom o ho), fun o ho => (hdm0 o (hi.dom o ho)).2 ho, fun o ho hd => (hdm0 o ho).1 hd, hle.fz, fun b x e => e, fun b x y e f => hle.new b x y (hi.kp b x e) f, hle.os, hle.tape, hle.output⟩
  have hlen : (renH H.length H1).length = H1.length := by simp [renH]
  have nfz : ∀ b x, w.heap[b]? = some x → G.fz b = none → G1'.fz b = none := fun b x e f => by
    cases hc : G1'.fz b with
    | none => rfl
    | some y => obtain ⟨z, hz⟩ := hle.new b x y e hc; rw [show G1.fz b = G.fz b from rfl, f] at hz; cases hz
  have newer : ∀ o x, H1[o]? = some (some x) → G1'.sz o ≠ 0 → w.heap[(G1'.mu o).1]? = none := fun o x e hs => by
    obtain ⟨_, cs, k1, k2, k3, k4, k5, k6⟩ := (hi'.obj o x e).resolve_left fun q => hs q.2
    cases hc : w.heap[(G1'.mu o).1]? with
    | none => rfl
    | some y => rw [hle.kp _ y hc] at k6; cases k6
  have split1 : ∀ o x, (H ++ renH H.length H1)[o]? = some (some x) → (o < H.length ∧ H[o]? = some (some x)) ∨ (∃ q y, o = H.length + q ∧ H1[q]? = some (some y) ∧ x = ⟨y.t, renL H.length y.cells⟩) := fun o x e => by
    by_cases ho : o < H.length
    · rw [List.getElem?_append_left ho] at e; exact .inl ⟨ho, e⟩
    · rw [List.getElem?_append_right (by omega)] at e
      unfold renH at e
      rw [List.getElem?_map] at e
      obtain ⟨z, hz, hz2⟩ := Option.map_eq_some_iff.1 e
      cases z with
      | none => simp at hz2
      | some y => simp only [Option.map_some, Option.some.injEq] at hz2; exact .inr ⟨o - H.length, y, by omega, hz, hz2.symm⟩
  refine ⟨v, r1.ren H.length, G', H ++ renH H.length H1, e1, hleG, by simp, ⟨hi'.os, hi'.tape, hi'.output, hi'.fz, fun b x e => hold b x (hi.kp b x e), fun o ho => ?_, fun o x e => ?_, fun o x e => ?_, fun o o' x x' e e' hne hz hz' => ?_⟩, ?_, r1, H1, hq, rfl, rfl⟩
  · by_cases ho' : o < H.length
    · rw [List.length_append]; omega
    · have h9 := hi'.dom (o - H.length) ((hdm (o - H.length)).1 (by rw [Nat.add_sub_cancel' (by omega)]; exact ho))
      rw [List.length_append, hlen]; omega
  · rcases split1 o x e with ⟨ho, e2⟩ | ⟨q, y, rfl, e2, rfl⟩
    · exact (hdm0 o ho).2 (hi.live o x e2)
    · exact (hdm q).2 (hi'.live q y e2)
  · have f0 := split1 o x e
    clear e
    rcases f0 with ⟨ho, e⟩ | ⟨q, y, rfl, e, rfl⟩
    · rw [hsz0 o ho]
      refine (hi.obj o x e).imp id fun ⟨k0, cs, k1, k2, k3, k4, k5, k6⟩ => ⟨k0, cs, ?_⟩
      rw [hmu0 o ho, hsz0 o ho]
      exact ⟨hold _ _ k1, k2, k3.mono hleG (by simp), k4, nfz _ _ k1 k5, k6⟩
    · rw [hsz]
      refine (hi'.obj q y e).imp (fun k => ⟨by rw [k.1]; rfl, k.2⟩) fun ⟨k0, cs, k1, k2, k3, k4, k5, k6⟩ => ⟨k0, cs, ?_⟩
      rw [hmu, hsz]
      refine ⟨k1, k2, ?_, by rw [renL_one]; exact k4, k5, ?_⟩
      · rw [renL_map]
        refine ⟨by rw [List.length_map]; exact k3.1, fun i z u f f' => ?_⟩
        rw [List.getElem?_map] at f
        obtain ⟨z', hz', rfl⟩ := Option.map_eq_some_iff.1 f
        rw [List.length_map] at f'
        exact (k3.2 i z' u hz' f').ren (fun o ho => (hdm o).2 ho) (fun o _ => hmu o) (fun o _ => hsz o) (.inl fun b y h => h)
      · cases hc : G.kp (G1'.mu q).1 with
        | none => rfl
        | some z => have := hi.kp _ z hc; rw [newer q y e k0] at this; cases this
  · have f0 := split1 o x e
    have f1 := split1 o' x' e'
    clear e e'
    rcases f0 with ⟨ho, e⟩ | ⟨q, y, rfl, e, rfl⟩ <;> rcases f1 with ⟨ho', e'⟩ | ⟨q', y', rfl, e', rfl⟩
    · rw [hsz0 o ho] at hz; rw [hsz0 o' ho'] at hz'; rw [hmu0 o ho, hmu0 o' ho']; exact hi.inj o o' x x' e e' hne hz hz'
    · rw [hsz0 o ho] at hz; rw [hsz] at hz'; rw [hmu0 o ho, hmu]
      obtain ⟨_, cs, k1, _⟩ := (hi.obj o x e).resolve_left fun q => hz q.2
      intro e2; rw [e2] at k1; rw [newer q' y' e' hz'] at k1; cases k1
    · rw [hsz0 o' ho'] at hz'; rw [hsz] at hz; rw [hmu0 o' ho', hmu]
      obtain ⟨_, cs, k1, _⟩ := (hi.obj o' x' e').resolve_left fun q => hz' q.2
      intro e2; rw [← e2] at k1; rw [newer q y e hz] at k1; cases k1
    · rw [hsz] at hz hz'; rw [hmu, hmu]
      exact hi'.inj q q' y y' e e' (by omega) hz hz'
  · exact hx.ren (fun o ho => (hdm o).2 ho) (fun o _ => hmu o) (fun o _ => hsz o) (.inl fun b y h => h)
inductive SnapC (H : AHeap) : AV → IV → Prop
  | iv (x : IV) : SnapC H (.iv x) x
  | nil (get : Nat → IV) (sz : Nat) : SnapC H (.iv (.lit (.slice none 0 0))) (.sl get 0 sz)
  | osl (o off len sz : Nat) (get : Nat → IV) (obj : AObj) (ys : Nat → AV) : sz ≠ 0 → H[o]? = some (some obj) → (∀ j, j < len * sz → obj.cells[off + j]? = some (ys j)) → (∀ j, j < len * sz → SnapC H (ys j) (get j)) → SnapC H (.osl o off len sz) (.sl get len sz)
  | optr (o off ext : Nat) (get : Nat → IV) (obj : AObj) (ys : Nat → AV) : ext ≠ 0 → H[o]? = some (some obj) → (∀ j, j < ext → obj.cells[off + j]? = some (ys j)) → (∀ j, j < ext → SnapC H (ys j) (get j)) → SnapC H (.optr o off) (.ptr get ext)
theorem SnapC.rif {H : AHeap} {x : AV} {y : IV} (h : SnapC H x y) {G : Gh} {w : World} {fz : Nat → Option Obj} (hi : Inv G H w) (hfz : ∀ b x, G.fz b = some x → fz b = some x) (hown : ∀ o obj, H[o]? = some (some obj) → G.sz o ≠ 0 → fz (G.mu o).1 = w.heap[(G.mu o).1]?) : ∀ {v : Value}, RA H.length G x v → RI fz y v := by
  induction h with
  | iv x => intro v hr; cases hr with | iv _ _ h => exact h.mono hfz
  | nil get sz => intro v hr; have := hr.lit_inv; subst this; exact .nil _ _ 0 (Nat.zero_le _)
  | osl o off len sz get obj ys h0 ho h1 h2 ih =>
    intro v hr
    cases hr with
    | onil => exact .nil _ _ 0 (Nat.zero_le _)
    | osl _ _ _ _ b a cap k1 k2 k3 k4 k5 k6 =>
      by_cases hl : len = 0
      · subst hl; exact .empty _ _ _ _ k5
      · have hpos : 0 < len * sz := Nat.mul_pos (by omega) (by omega)
        obtain ⟨m0, cs, m1, m2, m3, m4, m5, m6⟩ := hi.real ho (fun e => by have := h1 0 hpos; rw [e] at this; simp at this)
        rw [← hown o obj ho m0] at m1
        have ha := k3 (by omega)
        subst ha
        rw [k2] at m1
        refine .sl get len sz b ((G.mu o).2 + off) cap cs obj.t (0, 0) (fun j => cs.toList.getD ((G.mu o).2 + off + j) undef) m1 (fun j hj => ?_) (fun j hj => ?_) k4 k5
        · obtain ⟨u, hu, _⟩ := m3.cell (h1 j hj)
          rw [← Nat.add_assoc] at hu
          rw [← Array.getElem?_toList, hu, List.getD_eq_getElem?_getD, hu]; rfl
        · obtain ⟨u, hu, hr⟩ := m3.cell (h1 j hj)
          rw [← Nat.add_assoc] at hu
          rw [List.getD_eq_getElem?_getD, hu]
          exact ih j hj hr
  | optr o off ext get obj ys h0 ho h1 h2 ih =>
    intro v hr
    cases hr with
    | optr _ _ k1 =>
      obtain ⟨m0, cs, m1, m2, m3, m4, m5, m6⟩ := hi.real ho (fun e => by have := h1 0 (by omega); rw [e] at this; simp at this)
      rw [← hown o obj ho m0] at m1
      refine .ptr get ext _ ((G.mu o).2 + off) cs obj.t (0, 0) (fun j => cs.toList.getD ((G.mu o).2 + off + j) undef) m1 (fun j hj => ?_) (fun j hj => ?_)
      · obtain ⟨u, hu, _⟩ := m3.cell (h1 j hj)
        rw [← Nat.add_assoc] at hu
        rw [← Array.getElem?_toList, hu, List.getD_eq_getElem?_getD, hu]; rfl
      · obtain ⟨u, hu, hr⟩ := m3.cell (h1 j hj)
        rw [← Nat.add_assoc] at hu
        rw [List.getD_eq_getElem?_getD, hu]
        exact ih j hj hr
theorem SnapC.ri {H : AHeap} {x : AV} {y : IV} (h : SnapC H x y) {G : Gh} {w : World} (hi : Inv G H w) {v : Value} (hr : RA H.length G x v) : RI (fun b => w.heap[b]?) y v :=
  h.rif hi hi.fz (fun _ _ _ _ => rfl) hr
theorem RA.fzmono {n : Nat} {G : Gh} {fz : Nat → Option Obj} (h : ∀ b x, G.fz b = some x → fz b = some x) {x : AV} {v : Value} (r : RA n G x v) : RA n { G with fz := fz, bs := baseOk_up h G.bs } x v := by
  induction r with
  | iv x v hr => exact .iv x v (hr.mono h)
  | agg xs vs h1 h2 h3 ih => exact .agg xs vs h1 ih h3
  | tup xs vs h1 h2 ih => exact .tup xs vs h1 ih
  | osl o off len sz b a cap h1 h2 h3 h4 h5 h6 => exact .osl o off len sz b a cap h1 h2 h3 h4 h5 h6
  | onil o off sz h1 => exact .onil o off sz h1
  | optr o off h1 => exact RA.optr (G := { G with fz := fz, bs := baseOk_up h G.bs }) o off h1
  | xptr o sz h1 h2 h3 => exact RA.xptr (G := { G with fz := fz, bs := baseOk_up h G.bs }) o sz h1 h2 h3
  | fn f first caps vs us h1 h2 h3 h4 ih1 ih2 => exact .fn f first caps vs us h1 h2 ih1 ih2
inductive Snap (H : AHeap) : AV → AV → Prop
  | same (x : AV) : Ids 0 x → Snap H x x
  | iv (x : AV) (y : IV) : SnapC H x y → Snap H x (.iv y)
  | agg (xs ys : List AV) : xs.length = ys.length → (∀ (i : Nat) (x y : AV), xs[i]? = some x → ys[i]? = some y → Snap H x y) → ys.all AV.one = true → Snap H (.agg xs) (.agg ys)
  | tup (xs ys : List AV) : xs.length = ys.length → (∀ (i : Nat) (x y : AV), xs[i]? = some x → ys[i]? = some y → Snap H x y) → Snap H (.tup xs) (.tup ys)
theorem Snap.ra {H : AHeap} {x y : AV} (h : Snap H x y) {G : Gh} {w : World} (hi : Inv G H w) : ∀ {v : Value}, RA H.length G x v → RA 0 { G with fz := fun b => w.heap[b]?, dom := fun _ => False, bs := baseOk_up hi.fz G.bs } y v := by
  induction h with
  | same x h =>
    intro v hr
    exact RA.fzmono (G := { G with dom := fun _ => False }) (fun b x e => hi.fz b x e) (hr.undom (n := 0) (k := 0) (dom' := fun _ => False) (fun o ho => by omega) h)
  | iv x y h => intro v hr; exact .iv _ _ (h.ri hi hr)
  | agg xs ys h1 h2 h3 ih =>
    intro v hr
    cases hr with
    | agg _ vs k1 k2 k3 =>
      refine .agg _ _ (h1.symm.trans k1) (fun i y u e e' => ?_) h3
      obtain ⟨x, hx⟩ := at_of_len h1.symm e
      exact ih i x y hx e (k2 i x u hx e')
  | tup xs ys h1 h2 ih =>
    intro v hr
    cases hr with
    | tup _ vs k1 k2 =>
      refine .tup _ _ (h1.symm.trans k1) (fun i y u e e' => ?_)
      obtain ⟨x, hx⟩ := at_of_len h1.symm e
      exact ih i x y hx e (k2 i x u hx e')
def SnapL (H : AHeap) (xs ys : List AV) : Prop := xs.length = ys.length ∧ ∀ (i : Nat) (x y : AV), xs[i]? = some x → ys[i]? = some y → Snap H x y
theorem SnapL.nil (H : AHeap) : SnapL H [] [] := ⟨rfl, fun i x y h => by simp at h⟩
theorem SnapL.cons {H : AHeap} {x y : AV} {xs ys : List AV} (h : Snap H x y) (r : SnapL H xs ys) : SnapL H (x :: xs) (y :: ys) :=
  ⟨by simp [r.1], fun i a b h1 h2 => by
    cases i with
    | zero => simp at h1 h2; subst h1 h2; exact h
    | succ i => exact r.2 i a b (by simpa using h1) (by simpa using h2)⟩
theorem Snap.raf {H : AHeap} {x y : AV} (h : Snap H x y) {G : Gh} {w : World} {fz : Nat → Option Obj} (hi : Inv G H w) (hfz : ∀ b x, G.fz b = some x → fz b = some x) (hown : ∀ o obj, H[o]? = some (some obj) → G.sz o ≠ 0 → fz (G.mu o).1 = w.heap[(G.mu o).1]?) : ∀ {v : Value}, RA H.length G x v → RA 0 { G with fz := fz, dom := fun _ => False, bs := baseOk_up hfz G.bs } y v := by
  induction h with
  | same x h => intro v hr; exact RA.fzmono (G := { G with dom := fun _ => False }) hfz (hr.undom (n := 0) (k := 0) (dom' := fun _ => False) (fun o ho => by omega) h)
  | iv x y h => intro v hr; exact .iv _ _ (h.rif hi hfz hown hr)
  | agg xs ys h1 h2 h3 ih =>
    intro v hr
    cases hr with
    | agg _ vs k1 k2 k3 =>
      refine .agg _ _ (h1.symm.trans k1) (fun i y u e e' => ?_) h3
      obtain ⟨x, hx⟩ := at_of_len h1.symm e
      exact ih i x y hx e (k2 i x u hx e')
  | tup xs ys h1 h2 ih =>
    intro v hr
    cases hr with
    | tup _ vs k1 k2 =>
      refine .tup _ _ (h1.symm.trans k1) (fun i y u e e' => ?_)
      obtain ⟨x, hx⟩ := at_of_len h1.symm e
      exact ih i x y hx e (k2 i x u hx e')
theorem SF.frozen {f : FuncId} {args : List AV} {Q : AV → AHeap → Prop} (h : PF P f args fun r H' => ∃ y, Snap H' r y ∧ Q y []) : PF P f args Q :=
  ⟨h.callable, fun G w vs hi hr => (h.calls G w vs hi hr).mono fun e w' ⟨v, r, G', H', h1, h2, h3, h4, h5, y, h6, h7⟩ => by
    let fz : Nat → Option Obj := fun b => match G'.kp b with | some _ => G'.fz b | none => w'.heap[b]?
    have hfz : ∀ b x, G'.fz b = some x → fz b = some x := fun b x e => by
      show (match G'.kp b with | some _ => G'.fz b | none => w'.heap[b]?) = some x
      split
      · exact e
      · exact h4.fz b x e
    have hown : ∀ o obj, H'[o]? = some (some obj) → G'.sz o ≠ 0 → fz (G'.mu o).1 = w'.heap[(G'.mu o).1]? := fun o obj e hs => by
      obtain ⟨_, cs, k1, k2, k3, k4, k5, k6⟩ := (h4.obj o obj e).resolve_left fun q => hs q.2
      show (match G'.kp (G'.mu o).1 with | some _ => G'.fz (G'.mu o).1 | none => w'.heap[(G'.mu o).1]?) = _
      rw [k6]
    refine ⟨v, y, { G' with fz := fz, dom := fun _ => False, bs := baseOk_up hfz G'.bs }, [], h1, ⟨h2.mu, h2.sz, fun o ho => absurd (hi.dom o ho) (by simp), fun o ho => absurd ho (by simp), fun b x e => hfz b x (h2.fz b x e), h2.kp, fun b x z e e' => ?_, h2.os, h2.tape, h2.output⟩, Nat.zero_le _, ⟨h4.os, h4.tape, h4.output, fun b x e => ?_, h4.kp, fun o ho => ho.elim, fun o x e => by simp at e, fun o x e => by simp at e, fun o o' x x' e => by simp at e⟩, h6.raf h4 hfz hown h5, h7⟩
    · have e2 : fz b = some z := e'
      simp only [fz, h2.kp b x e] at e2
      exact h2.new b x z e e2
    · have e2 : fz b = some x := e
      simp only [fz] at e2
      split at e2
      · exact h4.fz b x e2
      · exact e2⟩
theorem PF.value {f : FuncId} {args : List AV} {x : IV} {H : AHeap} (hargs : ∀ a ∈ args, Ids 0 a) (h : PF P f args fun r H' => r = .iv x ∧ H' = []) : SF P f args H fun r H1 => r = .iv x ∧ H1 = H :=
  (h.among hargs).mono fun r H' ⟨r1, H1, ⟨e1, e2⟩, e3, e4⟩ => by subst e1 e2; exact ⟨e3, by rw [e4]; simp [renH]⟩
end
end Go.Proofs.YtghdacijcnmhlaaDoor
namespace Go.Proofs.YtghdacijcnmhlaaDoor
open Go.RowKit
set_option linter.unusedVariables false
theorem CellRow.part {w : World} {b off : Nat} {xs : List Value} (h : CellRow w (some ⟨b, off, none⟩) xs) (i j : Nat) : CellRow w (some ⟨b, off + i, none⟩) ((xs.drop i).take j) := fun q u hq => by
  have h1 : xs[i + q]? = some u := by
    rw [List.getElem?_take] at hq
    split at hq
    · simpa using hq
    · cases hq
  obtain ⟨b', off', h0, hc⟩ := h (i + q) u h1
  cases h0
  exact ⟨b, off + i, rfl, by rw [← hc, Nat.add_assoc]⟩
theorem CellRow.nil (w : World) (A : Option Addr) : CellRow w A [] := fun j u h => by simp at h
theorem IntRow.cells {w : World} {a : Option Addr} {len : Nat} {xs : List Int} (h : IntRow w a len xs) : CellRow w a (xs.map (Value.int .i64)) := fun j u hj => by
  have hj' : j < xs.length := by
    rcases Nat.lt_or_ge j xs.length with h1 | h1
    · exact h1
    · rw [List.getElem?_eq_none (by simpa using h1)] at hj; cases hj
  obtain ⟨b, off, h0, hc⟩ := h.2.2 (by rw [← h.1]; omega)
  refine ⟨b, off, h0, ?_⟩
  rw [hc j (by rw [← h.1]; exact hj')]
  simp [List.getElem?_map, List.getElem?_eq_getElem hj'] at hj
  simp [List.getD, hj', ← hj]
theorem CellRow.at {w : World} {b : Nat} (vs : List Value) (t : TypeId) (hb : b = w.heap.size) : CellRow (w.alloc (.cells vs.toArray t)) (some ⟨b, 0, none⟩) vs := by subst hb; exact CellRow.made w vs t
theorem CellRow.grown {w w' : World} {r : Option Nat} {b off : Nat} {xs : List Value} (hg : w.grownBy w' r) (h : CellRow w (some ⟨b, off, none⟩) xs) (hr : some b ≠ r) : CellRow w' (some ⟨b, off, none⟩) xs := fun j u hj => by
  obtain ⟨b', off', h0, hc⟩ := h j u hj
  cases h0
  exact ⟨b, off, rfl, keep_grown hg hc hr⟩
end Go.Proofs.YtghdacijcnmhlaaDoor
namespace Go.Proofs.YtghdacijcnmhlaaDoor
open Go.RowKit
set_option linter.unusedVariables false
set_option linter.unusedSimpArgs false
def lint (x : Int) : AV := lt (.int .i64 x)
def iInts (xs : List Int) : IV := .sl (fun j => .lit (.int .i64 (xs.getD j 0))) xs.length 1
def iBools (xs : List Bool) : IV := .sl (fun j => .lit (.bool (xs.getD j false))) xs.length 1
def iRows (xss : List (List Int)) : IV := .sl (fun j => iInts (xss.getD j [])) xss.length 1
def Gh.of (W : World) [hb : BaseAt fun b => W.heap[b]?] : Gh := { bs := hb.ok, dom := fun _ => False, mu := fun _ => (0, 0), sz := fun _ => 0, fz := fun b => W.heap[b]?, kp := fun b => W.heap[b]?, os := W.os, tape := W.tape, output := W.output }
theorem Inv.of (W : World) [BaseAt fun b => W.heap[b]?] : Inv (Gh.of W) [] W := ⟨rfl, rfl, rfl, fun b x e => e, fun b x e => e, fun o ho => ho.elim, fun o x e => by simp at e, fun o x e => by simp at e, fun o o' x x' e => by simp at e⟩
theorem law_of {P : Program} {f : FuncId} {args : List AV} {v : Value} (h : PF P f args fun r _ => r = lt v) (W : World) [BaseAt fun b => W.heap[b]?] (vs : List Value) (hr : RL 0 (Gh.of W) args vs) : Calls P f vs.toArray W fun e W' => e = .returned v ∧ Below W.heap.size W W' := by
  refine (h.calls (Gh.of W) W vs (Inv.of W) hr).mono fun e w' ⟨u, r, G', H', h1, h2, _, h4, h5, h6⟩ => ?_
  subst h6
  have hb : ∀ k x, W.heap[k]? = some x → w'.heap[k]? = some x := fun k x e => h4.fz k x (h2.fz k x e)
  refine ⟨by rw [h1, h5.lit_inv], h4.os.trans h2.os, h4.tape.trans h2.tape, h4.output.trans h2.output, ?_, fun k hk => ?_⟩
  · rcases Nat.eq_zero_or_pos W.heap.size with h0 | h0
    · omega
    · have := lt_of_heap (hb (W.heap.size - 1) _ (Array.getElem?_eq_getElem (by omega)))
      omega
  · have := Array.getElem?_eq_getElem hk
    rw [this]; exact hb k _ this
theorem cells_of_cell {w : World} {b i : Nat} {v : Value} (h : w.cell? ⟨b, i, none⟩ = some v) : ∃ cs t fr, w.heap[b]? = some (.cells cs t fr) ∧ cs[i]? = some v := by
  unfold World.cell? at h
  split at h
  · rename_i c t fr hb; simp at h; exact ⟨c, t, fr, hb, h⟩
  · cases h
section
variable {W : World} {a : Option Addr} {len cap : Nat}
theorem ri_ints {xs : List Int} (h : IntRow W a len xs) (h1 : len ≤ cap) (h2 : cap ≤ maxLen) : RI (fun b => W.heap[b]?) (iInts xs) (.slice a len cap) := by
  obtain ⟨e1, _, e3⟩ := h
  subst e1
  unfold iInts
  by_cases h0 : xs.length = 0
  · rw [h0]
    cases a with
    | none => exact .nil _ _ _ h2
    | some ad => exact .empty _ _ _ _ h2
  · obtain ⟨b, off, rfl, hc⟩ := e3 (by omega)
    obtain ⟨cs, t, fr, hb, _⟩ := cells_of_cell (hc 0 (by omega))
    refine .sl _ _ _ b off cap cs t fr (fun j => .int .i64 (xs.getD j 0)) hb (fun j hj => ?_) (fun j _ => .lit _) h1 h2
    have := hc j (by omega)
    rwa [cell_of_heap hb] at this
end
theorem RL.one {n : Nat} {G : Gh} {x : AV} {v : Value} (h : RA n G x v) : RL n G [x] [v] := RL.cons h (RL.nil _ _)
theorem RL.two {n : Nat} {G : Gh} {x y : AV} {v u : Value} (h : RA n G x v) (k : RA n G y u) : RL n G [x, y] [v, u] := RL.cons h (RL.one k)
theorem RL.three {n : Nat} {G : Gh} {x y z : AV} {v u t : Value} (h : RA n G x v) (k : RA n G y u) (l : RA n G z t) : RL n G [x, y, z] [v, u, t] := RL.cons h (RL.two k l)
theorem ri_lit {fz : Nat → Option Obj} {v u : Value} (h : RI fz (.lit v) u) : u = v := by cases h; rfl
theorem ints_row {fz : Nat → Option Obj} {w : World} (hf : ∀ b x, fz b = some x → w.heap[b]? = some x) {xs : List Int} {v : Value} (hx : xs.length ≤ maxLen) (h : RI fz (iInts xs) v) : ∃ a cap, v = .slice a xs.length cap ∧ xs.length ≤ cap ∧ cap ≤ maxLen ∧ IntRow w a xs.length xs := by
  unfold iInts at h
  generalize hl : xs.length = l at h hx
  cases h with
  | nil get sz cap h => exact ⟨none, cap, rfl, Nat.zero_le _, h, hl, hx, fun h => by omega⟩
  | empty get sz a cap h => exact ⟨some a, cap, rfl, Nat.zero_le _, h, hl, hx, fun h => by omega⟩
  | sl get len sz b off cap cs t fr vs h1 h2 h3 h4 h5 =>
    refine ⟨_, cap, rfl, h4, h5, hl, hx, fun hp => ⟨b, off, rfl, fun i hi => ?_⟩⟩
    rw [cell_of_heap (hf _ _ h1), h2 i (by omega)]
    rw [ri_lit (h3 i (by omega))]
theorem PF_of_walk {P : Program} {f : FuncId} {args : List AV} {v : Value} (hc : Callable P f) (h : ∀ G w vs, Inv G [] w → RL 0 G args vs → Calls P f vs.toArray w fun e w' => e = .returned v ∧ Below w.heap.size w w') : PF P f args fun r H' => r = lt v ∧ H' = [] :=
  ⟨hc, fun G w vs hi hr => (h G w vs hi hr).mono fun e w' ⟨h1, h2⟩ => ⟨v, lt v, G, [], h1, Gh.le.refl _ _, Nat.le_refl _, ⟨h2.os.trans hi.os, h2.tape.trans hi.tape, h2.output.trans hi.output, fun b x e => (h2.block b (lt_of_heap (hi.fz b x e))).trans (hi.fz b x e), fun b x e => (h2.block b (lt_of_heap (hi.kp b x e))).trans (hi.kp b x e), fun o ho => hi.dom o ho, fun o x e => by simp at e, fun o x e => by simp at e, fun o o' x x' e => by simp at e⟩, .iv _ _ (.lit _), rfl, rfl⟩⟩
def aForm (vars : Int) (xss : List (List Int)) : AV := .agg [lint vars, .iv (iRows xss)]
end Go.Proofs.YtghdacijcnmhlaaDoor
