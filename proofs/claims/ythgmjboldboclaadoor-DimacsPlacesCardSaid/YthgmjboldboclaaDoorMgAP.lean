import Derived.Test.YthgmjboldboclaaDoorMgAO
import Derived.Test.YthgmjboldboclaaDoorMgAL
import Derived.Test.YthgmjboldboclaaDoorMgAM
import Derived.Test.YthgmjboldboclaaDoorMgAN
namespace Go.Proofs.YthgmjboldboclaaDoor
theorem Leads.more {m : Nat} {s : AS} {S : AS → Prop} (t : Nat) (h : S ⟨s.fr, s.H ++ [some ⟨t, []⟩]⟩) : Leads m s S := fun G a w hm hr => by
  have hd : ¬ G.dom s.H.length := hr.inv.new
  have hle := Gh.more_le G (m := s.H.length) (n := s.H.length) (Nat.le_refl _) hd (0, 0) 0
  refine ⟨G.more s.H.length (0, 0) 0, _, hle.leb hm, by simp; omega, ⟨hr.defers, ?_, ?_⟩, h⟩
  · exact hr.fr.mono hle (by simp)
  · have hi0 := hr.inv
    have old : ∀ {o x}, (s.H ++ [some (AObj.mk t [])])[o]? = some (some x) → (o = s.H.length ∧ x = ⟨t, []⟩) ∨ (o < s.H.length ∧ s.H[o]? = some (some x)) := fun {o x} e => by
      rcases Nat.lt_or_ge o s.H.length with h1 | h1
      · rw [List.getElem?_append_left h1] at e; exact .inr ⟨h1, e⟩
      · rw [List.getElem?_append_right h1] at e
        have h2 := (List.getElem?_eq_some_iff.1 e).1
        simp at h2
        have h3 : o = s.H.length := by omega
        subst h3; simp at e; exact .inl ⟨rfl, e.symm⟩
    have mu' : ∀ {o}, o < s.H.length → (G.more s.H.length (0, 0) 0).mu o = G.mu o ∧ (G.more s.H.length (0, 0) 0).sz o = G.sz o := fun {o} ho => ⟨if_neg (by omega), if_neg (by omega)⟩
    refine ⟨hi0.os, hi0.tape, hi0.output, hi0.fz, hi0.kp, fun o ho => ?_, fun o x e => ?_, fun o x e => ?_, fun o o' x x' e e' hne z z' => ?_⟩
    · rcases ho with rfl | ho
      · simp
      · have := hi0.dom o ho; simp; omega
    · rcases old e with ⟨rfl, _⟩ | ⟨_, e⟩
      · exact .inl rfl
      · exact .inr (hi0.live o x e)
    · rcases old e with ⟨rfl, rfl⟩ | ⟨h1, e⟩
      · exact .inl ⟨rfl, if_pos rfl⟩
      · obtain ⟨m1, m2⟩ := mu' h1
        rcases hi0.obj o x e with ⟨c1, c2⟩ | ⟨c1, cs, k1, k2, k3, k4, k5, k6⟩
        · exact .inl ⟨c1, m2.trans c2⟩
        · exact .inr ⟨by rw [m2]; exact c1, cs, by rw [m1]; exact k1, by rw [m2]; exact k2, by rw [m1]; exact k3.mono hle (by simp), k4, by rw [m1]; exact k5, by rw [m1]; exact k6⟩
    · rcases old e with ⟨rfl, rfl⟩ | ⟨h1, e⟩
      · exact absurd (if_pos rfl) z
      · rcases old e' with ⟨rfl, rfl⟩ | ⟨h2, e'⟩
        · exact absurd (if_pos rfl) z'
        · rw [(mu' h1).1, (mu' h2).1]
          exact hi0.inj o o' x x' e e' hne (by rw [← (mu' h1).2]; exact z) (by rw [← (mu' h2).2]; exact z')
theorem Leads.cellNilAt {m : Nat} {s : AS} {S : AS → Prop} (o q sz j : Nat) (x y : AObj) (ho : s.H[o]? = some (some x)) (hj : x.cells[j]? = some (lt (.slice none 0 0))) (hq : s.H[q]? = some (some y)) (h : S ⟨s.fr, s.H.set o (some ⟨x.t, x.cells.set j (.osl q 0 0 sz)⟩)⟩) : Leads m s S := fun G a w hm hr => by
  have hjl := (List.getElem?_eq_some_iff.1 hj).1
  refine ⟨G, _, Gh.leb.refl _ _, by show m ≤ (s.H.set _ _).length; rw [List.length_set]; exact hm, ⟨hr.defers, ?_, ?_⟩, h⟩
  · show RL (s.H.set _ _).length _ _ _
    rw [List.length_set]; exact hr.fr
  · have hne : x.cells ≠ [] := fun e => by rw [e] at hjl; simp at hjl
    have hone := (hr.inv.obj o x ho)
    refine hr.inv.recell ho hne (x.cells.set j (.osl q 0 0 sz)) (by simp) ?_ fun vs hv => ?_
    · rcases hone with ⟨e, _⟩ | ⟨_, cs, _, _, _, h4, _⟩
      · exact absurd e hne
      · rw [List.all_eq_true] at h4 ⊢
        intro z hz
        rcases List.mem_or_eq_of_mem_set hz with h5 | h5
        · exact h4 z h5
        · subst h5; rfl
    · obtain ⟨v, hv1, hv2⟩ := hv.at hj
      have := hv2.lit_inv; subst this
      have hset : vs = vs.set j (.slice none 0 0) := by
        apply List.ext_getElem?
        intro k
        by_cases hk : j = k
        · subst hk; rw [List.getElem?_set_self (List.getElem?_eq_some_iff.1 hv1).1, hv1]
        · rw [List.getElem?_set_ne hk]
      rw [hset]
      exact hv.set j (.onil q 0 sz (hr.inv.live q y hq))
variable {P : Program} {m : Nat} {Q : Exit → XS → Prop}
theorem AX_cellNew {fr : List AV} {H : AHeap} {M : MS} {c : Code} (o t sz j : Nat) (x : AObj) (ho : H[o]? = some (some x)) (hj : x.cells[j]? = some (lt (.slice none 0 0))) (h : AX P m c Q ⟨fr, H.set o (some ⟨x.t, x.cells.set j (.osl H.length 0 0 sz)⟩) ++ [some ⟨t, []⟩], M⟩) : AX P m c Q ⟨fr, H, M⟩ := by
  have hol := (List.getElem?_eq_some_iff.1 ho).1
  refine AX_lead (S := fun s1 => s1 = ⟨fr, H ++ [some ⟨t, []⟩], M⟩) (.of (.more t rfl)) fun s' e => ?_
  subst e
  refine AX_lead (S := fun s1 => s1 = ⟨fr, H.set o (some ⟨x.t, x.cells.set j (.osl H.length 0 0 sz)⟩) ++ [some ⟨t, []⟩], M⟩) (.of (.cellNilAt o H.length sz j x ⟨t, []⟩ (by rw [List.getElem?_append_left hol]; exact ho) hj (by simp) ?_)) fun s' e => by rw [e]; exact h
  show (⟨_, _, _⟩ : XS) = _
  rw [List.set_append_left _ _ hol]
end Go.Proofs.YthgmjboldboclaaDoor
namespace Go.Proofs.YthgmjboldboclaaDoor
open Go.RowKit
set_option linter.unusedVariables false
set_option linter.unusedSimpArgs false
section
variable {P : Program} {tt : TT} {m : Nat} {Q : Exit → XS → Prop} {fr : List AV} {H : AHeap} {M : MS} {l : List Oper} {o : Oper} {n0 : Nat} {us : List Nat} {H0 Hc : AHeap} {K : List AV → AHeap → Prop} {al : List Kd}
theorem ADR_free0 (hT : TyOK P tt) (hr : roOp o.op = true) (hw : wantedS fr o = some true) (h : match aop tt ⟨fr, []⟩ o with | some (x, _) => ADR P n0 us H0 K Hc (l, al, putL fr o.dst x) | none => False) : ADR P n0 us H0 K Hc (o :: l, .free :: al, fr) := fun n hn => by
  cases hx : aop tt ⟨fr, []⟩ o with
  | none => rw [hx] at h; exact h.elim
  | some p =>
    obtain ⟨x, H'⟩ := p
    rw [hx] at h
    have := aop_ro hr hx
    subst this
    exact ⟨x, Hc, none, .free x (wanted_iff hn hw) fun H => does_aop hT (aop_mono (H0 := []) ⟨Nat.zero_le _, fun o x e => by simp at e⟩ hr hx), h n (by show (putL _ _ _).length ≤ n; rw [putL_len]; exact hn)⟩
def kdOf2 (c : Bool) (op : Op) : Kd := match op with
  | .load _ _ => .free
  | op => kdOf c op
def alD2 (ops : List Oper) : List Kd := ops.map fun o => kdOf2 (ops.any fun o => isApp o.op) o.op
end
end Go.Proofs.YthgmjboldboclaaDoor
namespace Go.Proofs.YthgmjboldboclaaDoor
set_option linter.unusedSimpArgs false
def rowB : List (Nat × List UInt8) → List UInt8
  | [] => []
  | t :: ts => t.2 ++ ts.flatMap fun x => 32 :: x.2
def joinB (rs : List (Nat × Nat × List (Nat × List UInt8))) : List UInt8 := rs.flatMap fun r => rowB r.2.2 ++ [10]
theorem tk_snocD {α : Type} {xs : List α} {k : Nat} (d : α) (h : k < xs.length) : xs.take (k + 1) = xs.take k ++ [xs.getD k d] := by
  rw [List.take_add_one, List.getElem?_eq_getElem h, List.getD_eq_getElem?_getD, List.getElem?_eq_getElem h]; rfl
end Go.Proofs.YthgmjboldboclaaDoor
