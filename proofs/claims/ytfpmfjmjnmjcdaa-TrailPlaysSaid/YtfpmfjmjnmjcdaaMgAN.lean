import Derived.Test.YtfpmfjmjnmjcdaaMgAL
import Derived.Test.YtfpmfjmjnmjcdaaMgAK
namespace Go.Proofs.Ytfpmfjmjnmjcdaa
open Go.RowKit
set_option linter.unusedVariables false
set_option linter.unusedSimpArgs false
section
variable {P : Program} {tt : TT} {m : Nat} {Q : Exit → XS → Prop} {fr : List AV} {H : AHeap} {M : MS} {l : List Oper} {o : Oper} {n0 : Nat} {us : List Nat} {H0 Hc : AHeap} {K : List AV → AHeap → Prop} {al : List Kd}
theorem ADR_free0 (hT : TyOK P tt) (hr : roOp o.op = true) (hw : wantedS fr o = some true) (h : match aop tt ⟨fr, []⟩ o with | some (x, _) => ADR P n0 us H0 K Hc (l, al, putL fr o.dst x) | none => False) : ADR P n0 us H0 K Hc (o :: l, .free :: al, fr) := fun n hn => by
  cases hx : aop tt ⟨fr, []⟩ o with
  | none => rw [hx] at h; exact h.elim
  | some p =>
    obtain ⟨x, H'⟩ := p
    rw [hx] at h
    have := aop_ro hr hx
    subst this
    exact ⟨x, Hc, none, .free x (wanted_iff hn hw) fun H => does_aop hT (aop_mono (H0 := []) ⟨Nat.zero_le _, fun o x e => by simp at e⟩ hr hx), h n (by show (putL _ _ _).length ≤ n; rw [putL_len]; exact hn)⟩
def kdOf2 (c : Bool) (op : Op) : Kd := match op with
  | .load _ _ => .free
  | op => kdOf c op
def alD2 (ops : List Oper) : List Kd := ops.map fun o => kdOf2 (ops.any fun o => isApp o.op) o.op
end
end Go.Proofs.Ytfpmfjmjnmjcdaa
namespace Go.Proofs.Ytfpmfjmjnmjcdaa
variable {P : Program} {m : Nat} {Q : Exit → XS → Prop}
theorem Inv.recell {G : Gh} {H : AHeap} {w : World} (h : Inv G H w) {o : Nat} {x : AObj} (ho : H[o]? = some (some x)) (hne : x.cells ≠ []) (xs : List AV) (hl : xs.length = x.cells.length) (h1 : xs.all AV.one = true) (hx : ∀ vs, RL H.length G x.cells vs → RL H.length G xs vs) : Inv G (H.set o (some ⟨x.t, xs⟩)) w := by
  have holt : o < H.length := (List.getElem?_eq_some_iff.1 ho).1
  have hlen : (H.set o (some ⟨x.t, xs⟩)).length = H.length := List.length_set
  have back : ∀ q z, (H.set o (some ⟨x.t, xs⟩))[q]? = some (some z) → ∃ z', H[q]? = some (some z') := fun q z hq => by
    by_cases hq2 : q = o
    · subst hq2; exact ⟨x, ho⟩
    · rw [List.getElem?_set_ne (Ne.symm hq2)] at hq; exact ⟨z, hq⟩
  refine ⟨h.os, h.tape, h.output, h.fz, h.kp, fun q hq => by rw [hlen]; exact h.dom q hq, fun q z e => by obtain ⟨z', hz'⟩ := back q z e; exact h.live q z' hz', fun o' y e => ?_, fun o1 o2 y y' e e' hne' => by
    obtain ⟨z, hz⟩ := back o1 y e
    obtain ⟨z', hz'⟩ := back o2 y' e'
    exact h.inj o1 o2 z z' hz hz' hne'⟩
  rw [hlen]
  by_cases hoo : o' = o
  · subst hoo
    rw [List.getElem?_set_self holt] at e
    simp only [Option.some.injEq] at e; subst e
    obtain ⟨k0, cs, k1, k2, k3, k4, k5, k6⟩ := h.real ho hne
    exact .inr ⟨k0, cs, k1, k2, by rw [hl]; exact hx _ k3, h1, k5, k6⟩
  · rw [List.getElem?_set_ne (Ne.symm hoo)] at e
    exact h.obj o' y e
end Go.Proofs.Ytfpmfjmjnmjcdaa
namespace Go.Proofs.Ytfpmfjmjnmjcdaa
variable {P : Program} {m : Nat} {Q : Exit → XS → Prop}
theorem Inv.cut {G : Gh} {H : AHeap} {w : World} (h : Inv G H w) {o : Nat} {x : AObj} (ho : H[o]? = some (some x)) (hne : x.cells ≠ []) (k : Nat) : Inv G (H.set o (some ⟨x.t, x.cells.take k⟩)) w := by
  have holt : o < H.length := (List.getElem?_eq_some_iff.1 ho).1
  have hlen : (H.set o (some ⟨x.t, x.cells.take k⟩)).length = H.length := List.length_set
  have back : ∀ q z, (H.set o (some ⟨x.t, x.cells.take k⟩))[q]? = some (some z) → ∃ z', H[q]? = some (some z') := fun q z hq => by
    by_cases hq2 : q = o
    · subst hq2; exact ⟨x, ho⟩
    · rw [List.getElem?_set_ne (Ne.symm hq2)] at hq; exact ⟨z, hq⟩
  refine ⟨h.os, h.tape, h.output, h.fz, h.kp, fun q hq => by rw [hlen]; exact h.dom q hq, fun q z e => by obtain ⟨z', hz'⟩ := back q z e; exact h.live q z' hz', fun o' y e => ?_, fun o1 o2 y y' e e' hne' => by
    obtain ⟨z, hz⟩ := back o1 y e
    obtain ⟨z', hz'⟩ := back o2 y' e'
    exact h.inj o1 o2 z z' hz hz' hne'⟩
  rw [hlen]
  by_cases hoo : o' = o
  · subst hoo
    rw [List.getElem?_set_self holt] at e
    simp only [Option.some.injEq] at e; subst e
    obtain ⟨k0, cs, k1, k2, k3, k4, k5, k6⟩ := h.real ho hne
    refine .inr ⟨k0, cs, k1, k2, ?_, ?_, k5, k6⟩
    · have := k3.take k
      rw [List.take_take] at this
      rw [List.length_take]; exact this
    · rw [List.all_eq_true] at k4 ⊢
      exact fun y hy => k4 y (List.mem_of_mem_take hy)
  · rw [List.getElem?_set_ne (Ne.symm hoo)] at e
    exact h.obj o' y e
theorem Leads.cut {s : AS} {S : AS → Prop} (o k : Nat) (y : AObj) (ho : s.H[o]? = some (some y)) (hne : y.cells ≠ []) (h : S ⟨s.fr, s.H.set o (some ⟨y.t, y.cells.take k⟩)⟩) : Leads m s S := fun G a w hm hr => by
  refine ⟨G, _, Gh.leb.refl _ _, by show m ≤ (s.H.set _ _).length; rw [List.length_set]; exact hm, ⟨hr.defers, ?_, ?_⟩, h⟩
  · show RL (s.H.set _ _).length _ _ _
    rw [List.length_set]; exact hr.fr
  · exact hr.inv.cut ho hne k
theorem AX_cut {fr : List AV} {H : AHeap} {M : MS} {c : Code} (o k : Nat) (y : AObj) (ho : H[o]? = some (some y)) (hne : y.cells ≠ []) (h : AX P m c Q ⟨fr, H.set o (some ⟨y.t, y.cells.take k⟩), M⟩) : AX P m c Q ⟨fr, H, M⟩ :=
  AX_lead (S := fun s1 => s1 = ⟨fr, H.set o (some ⟨y.t, y.cells.take k⟩), M⟩) (.of (.cut o k y ho hne rfl)) fun s' e => by rw [e]; exact h
end Go.Proofs.Ytfpmfjmjnmjcdaa
