import Derived.Test.YtfpmfjmjnmjcdaaMgAN
import Derived.Test.YtfpmfjmjnmjcdaaMgAL
namespace Go.Proofs.Ytfpmfjmjnmjcdaa
theorem Leads.more {m : Nat} {s : AS} {S : AS → Prop} (t : Nat) (h : S ⟨s.fr, s.H ++ [some ⟨t, []⟩]⟩) : Leads m s S := fun G a w hm hr => by
  have hd : ¬ G.dom s.H.length := hr.inv.new
  have hle := Gh.more_le G (m := s.H.length) (n := s.H.length) (Nat.le_refl _) hd (0, 0) 0
  refine ⟨G.more s.H.length (0, 0) 0, _, hle.leb hm, by simp; omega, ⟨hr.defers, ?_, ?_⟩, h⟩
  · exact hr.fr.mono hle (by simp)
  · have hi0 := hr.inv
    have old : ∀ {o x}, (s.H ++ [some (AObj.mk t [])])[o]? = some (some x) → (o = s.H.length ∧ x = ⟨t, []⟩) ∨ (o < s.H.length ∧ s.H[o]? = some (some x)) := fun {o x} e => by
      rcases Nat.lt_or_ge o s.H.length with h1 | h1
      · rw [List.getElem?_append_left h1] at e; exact .inr ⟨h1, e⟩
      · rw [List.getElem?_append_right h1] at e
        have h2 := (List.getElem?_eq_some_iff.1 e).1
        simp at h2
        have h3 : o = s.H.length := by omega
        subst h3; simp at e; exact .inl ⟨rfl, e.symm⟩
    have mu' : ∀ {o}, o < s.H.length → (G.more s.H.length (0, 0) 0).mu o = G.mu o ∧ (G.more s.H.length (0, 0) 0).sz o = G.sz o := fun {o} ho => ⟨if_neg (by omega), if_neg (by omega)⟩
    refine ⟨hi0.os, hi0.tape, hi0.output, hi0.fz, hi0.kp, fun o ho => ?_, fun o x e => ?_, fun o x e => ?_, fun o o' x x' e e' hne z z' => ?_⟩
    · rcases ho with rfl | ho
      · simp
      · have := hi0.dom o ho; simp; omega
    · rcases old e with ⟨rfl, _⟩ | ⟨_, e⟩
      · exact .inl rfl
      · exact .inr (hi0.live o x e)
    · rcases old e with ⟨rfl, rfl⟩ | ⟨h1, e⟩
      · exact .inl ⟨rfl, if_pos rfl⟩
      · obtain ⟨m1, m2⟩ := mu' h1
        rcases hi0.obj o x e with ⟨c1, c2⟩ | ⟨c1, cs, k1, k2, k3, k4, k5, k6⟩
        · exact .inl ⟨c1, m2.trans c2⟩
        · exact .inr ⟨by rw [m2]; exact c1, cs, by rw [m1]; exact k1, by rw [m2]; exact k2, by rw [m1]; exact k3.mono hle (by simp), k4, by rw [m1]; exact k5, by rw [m1]; exact k6⟩
    · rcases old e with ⟨rfl, rfl⟩ | ⟨h1, e⟩
      · exact absurd (if_pos rfl) z
      · rcases old e' with ⟨rfl, rfl⟩ | ⟨h2, e'⟩
        · exact absurd (if_pos rfl) z'
        · rw [(mu' h1).1, (mu' h2).1]
          exact hi0.inj o o' x x' e e' hne (by rw [← (mu' h1).2]; exact z) (by rw [← (mu' h2).2]; exact z')
theorem Leads.cellNilAt {m : Nat} {s : AS} {S : AS → Prop} (o q sz j : Nat) (x y : AObj) (ho : s.H[o]? = some (some x)) (hj : x.cells[j]? = some (lt (.slice none 0 0))) (hq : s.H[q]? = some (some y)) (h : S ⟨s.fr, s.H.set o (some ⟨x.t, x.cells.set j (.osl q 0 0 sz)⟩)⟩) : Leads m s S := fun G a w hm hr => by
  have hjl := (List.getElem?_eq_some_iff.1 hj).1
  refine ⟨G, _, Gh.leb.refl _ _, by show m ≤ (s.H.set _ _).length; rw [List.length_set]; exact hm, ⟨hr.defers, ?_, ?_⟩, h⟩
  · show RL (s.H.set _ _).length _ _ _
    rw [List.length_set]; exact hr.fr
  · have hne : x.cells ≠ [] := fun e => by rw [e] at hjl; simp at hjl
    have hone := (hr.inv.obj o x ho)
    refine hr.inv.recell ho hne (x.cells.set j (.osl q 0 0 sz)) (by simp) ?_ fun vs hv => ?_
    · rcases hone with ⟨e, _⟩ | ⟨_, cs, _, _, _, h4, _⟩
      · exact absurd e hne
      · rw [List.all_eq_true] at h4 ⊢
        intro z hz
        rcases List.mem_or_eq_of_mem_set hz with h5 | h5
        · exact h4 z h5
        · subst h5; rfl
    · obtain ⟨v, hv1, hv2⟩ := hv.at hj
      have := hv2.lit_inv; subst this
      have hset : vs = vs.set j (.slice none 0 0) := by
        apply List.ext_getElem?
        intro k
        by_cases hk : j = k
        · subst hk; rw [List.getElem?_set_self (List.getElem?_eq_some_iff.1 hv1).1, hv1]
        · rw [List.getElem?_set_ne hk]
      rw [hset]
      exact hv.set j (.onil q 0 sz (hr.inv.live q y hq))
variable {P : Program} {m : Nat} {Q : Exit → XS → Prop}
end Go.Proofs.Ytfpmfjmjnmjcdaa
namespace Go.Proofs.Ytfpmfjmjnmjcdaa
open Go.RowKit
set_option linter.unusedVariables false
set_option linter.unusedSimpArgs false
structure SX (P : Program) (f : FuncId) (args : List AV) (H : AHeap) (M : MS) (Q : AV → AHeap → MS → Prop) : Prop where
  callable : Callable P f
  calls : ∀ (K : Nat → Option Obj) (G : Gh) (w : World) (vs : List Value), (∀ b x, K b = some x → G.kp b = some x) → MOK K G M → Inv G H w → RL H.length G args vs → Calls P f vs.toArray w fun e w' => ∃ v r G' H' M', e = .returned v ∧ Gh.leb H.length { G with kp := K } G' ∧ MOK K G' M' ∧ H.length ≤ H'.length ∧ Inv G' H' w' ∧ RA H'.length G' r v ∧ Q r H' M'
theorem SX.mono {P : Program} {f : FuncId} {args : List AV} {H : AHeap} {M : MS} {Q Q' : AV → AHeap → MS → Prop} (h : SX P f args H M Q) (hq : ∀ r H' M', Q r H' M' → Q' r H' M') : SX P f args H M Q' :=
  ⟨h.callable, fun K G w vs hk hm hi hr => (h.calls K G w vs hk hm hi hr).mono fun e w' ⟨v, r, G', H', M', h1, h2, h3, h4, h5, h6, h7⟩ => ⟨v, r, G', H', M', h1, h2, h3, h4, h5, h6, hq _ _ _ h7⟩⟩
section
variable {P : Program} {tt : TT} {m : Nat} {Q : Exit → XS → Prop} {fr : List AV} {H : AHeap} {M : MS} {l : List Oper} {o : Oper}
def bodyXM (P : Program) (fn : Func) (load : AHeap → TypeId → AV → Option AV) (Q : AV → AHeap → MS → Prop) : Exit → XS → Prop
  | .normal, s | .ret, s => ∃ r, aresults P fn s.as (load s.H) = some r ∧ Q r s.H s.M
  | _, _ => False
theorem SX.of {f : FuncId} {args : List AV} {Q : AV → AHeap → Prop} (h : SF P f args H Q) : SX P f args H M fun r H' M' => Q r H' ∧ M' = M :=
  ⟨h.callable, fun K G w vs hk hm hi hr => (h.calls G w vs hi hr).mono fun e w' ⟨v, r, G', H', h1, h2, h3, h4, h5, h6⟩ =>
    ⟨v, r, G', H', M, h1, ⟨fun o ho hd => h2.mu o hd, fun o ho hd => h2.sz o hd, fun o ho hd => h2.dom o hd, h2.back, h2.fz, fun b x e => h2.kp b x (hk b x e), fun b x y e f => h2.new b x y (hk b x e) f, h2.os, h2.tape, h2.output⟩, hm.leb (h2.leb (Nat.le_refl _)), h3, h4, h5, h6, rfl⟩⟩
theorem RL.kpany {n : Nat} {G : Gh} {kp : Nat → Option Obj} {xs : List AV} {vs : List Value} (h : RL n G xs vs) : RL n { G with kp := kp } xs vs := ⟨h.1, fun i x v e e' => (h.2 i x v e e').kpany⟩
theorem Rst.call {G0 G G' : Gh} {s : AS} {H' : AHeap} {a : Act} {w w' : World} {x : AV} {v : Value} {kp : Nat → Option Obj} (hr : Rst G s a w) (h : Gh.leb s.H.length { G with kp := kp } G') (hn : s.H.length ≤ H'.length) (hi : Inv G' H' w') (hx : RA H'.length G' x v) (d : Option Tmp) : Rst G' ⟨putL s.fr d x, H'⟩ (a.put d v) w' := by
  have hle : Gh.le s.H.length { G with kp := kp } G' := h.le hr.inv.dom
  have hfr : RL H'.length G' s.fr a.tmps.toList := (RL.kpany (kp := kp) hr.fr).mono hle hn
  refine ⟨?_, ?_, hi⟩
  · cases d <;> exact hr.defers
  · cases d with
    | none => exact hfr
    | some d =>
      simp only [putL, Act.put, Array.toList_setIfInBounds]
      exact hfr.set d hx
end
end Go.Proofs.Ytfpmfjmjnmjcdaa
namespace Go.Proofs.Ytfpmfjmjnmjcdaa
def lvar (l : Int) : Int := if 1 ≤ l ∧ l ≤ 100000 then l else if -100000 ≤ l ∧ l ≤ -1 then -l else 0
def lside (l : Int) : Bool := decide (lvar l ≠ 0 ∧ 0 < l)
def lcheck (l vars : Int) : Int := if vars < 0 ∨ 100000 < vars then 2 else if lvar l = 0 ∨ vars < lvar l then 10 else 0
def lneg (l : Int) : Int := if lvar l = 0 then 0 else -l
def lindex (l : Int) : Int := if lvar l = 0 then -1 else if l < 0 then 2 * lvar l - 1 else 2 * lvar l - 2
def lfrom (i : Int) : Int := if i < 0 ∨ 200000 ≤ i then 0 else if i % 2 = 1 then -(i / 2 + 1) else i / 2 + 1
def lmake (v : Int) (t : Bool) : Int := if v < 1 ∨ 100000 < v then 0 else if t then v else -v
def lmakeE (v : Int) (t : Bool) : Int := if lmake v t = 0 then 10 else 0
def lhas (xs : List Int) (v : Int) : Bool := xs.contains v
def lof (xs : List Int) (v : Int) : Int :=
  if v < 1 ∨ 100000 < v then 0 else if lhas xs v = true ∧ lhas xs (-v) = true then 2 else if lhas xs v = true then 1 else if lhas xs (-v) = true then -1 else 0
def lmost (xs : List Int) : Int := xs.foldl (fun m l => max m (lvar l)) 0
theorem lvar_bd (l : Int) : 0 ≤ lvar l ∧ lvar l ≤ 100000 := by unfold lvar; split <;> (try split) <;> omega
theorem lvar_range {l : Int} (h : lvar l ≠ 0) : -100000 ≤ l ∧ l ≤ 100000 ∧ l ≠ 0 := by unfold lvar at h; split at h <;> (try split at h) <;> omega
theorem lindex_bd (l : Int) : -1 ≤ lindex l ∧ lindex l ≤ 199999 := by have := lvar_bd l; unfold lindex; split <;> (try split) <;> omega
end Go.Proofs.Ytfpmfjmjnmjcdaa
