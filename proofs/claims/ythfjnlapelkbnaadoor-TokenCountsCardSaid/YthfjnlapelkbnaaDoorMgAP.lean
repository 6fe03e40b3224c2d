import Derived.Test.YthfjnlapelkbnaaDoorMgAO
import Derived.Test.YthfjnlapelkbnaaDoorMgAM
import Derived.Test.YthfjnlapelkbnaaDoorMgAJ
import Derived.Test.YthfjnlapelkbnaaDoorMgAI
namespace Go.Proofs.YthfjnlapelkbnaaDoor
theorem Leads.more {m : Nat} {s : AS} {S : AS → Prop} (t : Nat) (h : S ⟨s.fr, s.H ++ [some ⟨t, []⟩]⟩) : Leads m s S := fun G a w hm hr => by
  have hd : ¬ G.dom s.H.length := hr.inv.new
  have hle := Gh.more_le G (m := s.H.length) (n := s.H.length) (Nat.le_refl _) hd (0, 0) 0
  refine ⟨G.more s.H.length (0, 0) 0, _, hle.leb hm, by simp; omega, ⟨hr.defers, ?_, ?_⟩, h⟩
  · exact hr.fr.mono hle (by simp)
  · have hi0 := hr.inv
    have old : ∀ {o x}, (s.H ++ [some (AObj.mk t [])])[o]? = some (some x) → (o = s.H.length ∧ x = ⟨t, []⟩) ∨ (o < s.H.length ∧ s.H[o]? = some (some x)) := fun {o x} e => by
      rcases Nat.lt_or_ge o s.H.length with h1 | h1
      · rw [List.getElem?_append_left h1] at e; exact .inr ⟨h1, e⟩
      · rw [List.getElem?_append_right h1] at e
        have h2 := (List.getElem?_eq_some_iff.1 e).1
        simp at h2
        have h3 : o = s.H.length := by omega
        subst h3; simp at e; exact .inl ⟨rfl, e.symm⟩
    have mu' : ∀ {o}, o < s.H.length → (G.more s.H.length (0, 0) 0).mu o = G.mu o ∧ (G.more s.H.length (0, 0) 0).sz o = G.sz o := fun {o} ho => ⟨if_neg (by omega), if_neg (by omega)⟩
    refine ⟨hi0.os, hi0.tape, hi0.output, hi0.fz, hi0.kp, fun o ho => ?_, fun o x e => ?_, fun o x e => ?_, fun o o' x x' e e' hne z z' => ?_⟩
    · rcases ho with rfl | ho
      · simp
      · have := hi0.dom o ho; simp; omega
    · rcases old e with ⟨rfl, _⟩ | ⟨_, e⟩
      · exact .inl rfl
      · exact .inr (hi0.live o x e)
    · rcases old e with ⟨rfl, rfl⟩ | ⟨h1, e⟩
      · exact .inl ⟨rfl, if_pos rfl⟩
      · obtain ⟨m1, m2⟩ := mu' h1
        rcases hi0.obj o x e with ⟨c1, c2⟩ | ⟨c1, cs, k1, k2, k3, k4, k5, k6⟩
        · exact .inl ⟨c1, m2.trans c2⟩
        · exact .inr ⟨by rw [m2]; exact c1, cs, by rw [m1]; exact k1, by rw [m2]; exact k2, by rw [m1]; exact k3.mono hle (by simp), k4, by rw [m1]; exact k5, by rw [m1]; exact k6⟩
    · rcases old e with ⟨rfl, rfl⟩ | ⟨h1, e⟩
      · exact absurd (if_pos rfl) z
      · rcases old e' with ⟨rfl, rfl⟩ | ⟨h2, e'⟩
        · exact absurd (if_pos rfl) z'
        · rw [(mu' h1).1, (mu' h2).1]
          exact hi0.inj o o' x x' e e' hne (by rw [← (mu' h1).2]; exact z) (by rw [← (mu' h2).2]; exact z')
theorem Leads.cellNilAt {m : Nat} {s : AS} {S : AS → Prop} (o q sz j : Nat) (x y : AObj) (ho : s.H[o]? = some (some x)) (hj : x.cells[j]? = some (lt (.slice none 0 0))) (hq : s.H[q]? = some (some y)) (h : S ⟨s.fr, s.H.set o (some ⟨x.t, x.cells.set j (.osl q 0 0 sz)⟩)⟩) : Leads m s S := fun G a w hm hr => by
  have hjl := (List.getElem?_eq_some_iff.1 hj).1
  refine ⟨G, _, Gh.leb.refl _ _, by show m ≤ (s.H.set _ _).length; rw [List.length_set]; exact hm, ⟨hr.defers, ?_, ?_⟩, h⟩
  · show RL (s.H.set _ _).length _ _ _
    rw [List.length_set]; exact hr.fr
  · have hne : x.cells ≠ [] := fun e => by rw [e] at hjl; simp at hjl
    have hone := (hr.inv.obj o x ho)
    refine hr.inv.recell ho hne (x.cells.set j (.osl q 0 0 sz)) (by simp) ?_ fun vs hv => ?_
    · rcases hone with ⟨e, _⟩ | ⟨_, cs, _, _, _, h4, _⟩
      · exact absurd e hne
      · rw [List.all_eq_true] at h4 ⊢
        intro z hz
        rcases List.mem_or_eq_of_mem_set hz with h5 | h5
        · exact h4 z h5
        · subst h5; rfl
    · obtain ⟨v, hv1, hv2⟩ := hv.at hj
      have := hv2.lit_inv; subst this
      have hset : vs = vs.set j (.slice none 0 0) := by
        apply List.ext_getElem?
        intro k
        by_cases hk : j = k
        · subst hk; rw [List.getElem?_set_self (List.getElem?_eq_some_iff.1 hv1).1, hv1]
        · rw [List.getElem?_set_ne hk]
      rw [hset]
      exact hv.set j (.onil q 0 sz (hr.inv.live q y hq))
variable {P : Program} {m : Nat} {Q : Exit → XS → Prop}
theorem AX_cellNew {fr : List AV} {H : AHeap} {M : MS} {c : Code} (o t sz j : Nat) (x : AObj) (ho : H[o]? = some (some x)) (hj : x.cells[j]? = some (lt (.slice none 0 0))) (h : AX P m c Q ⟨fr, H.set o (some ⟨x.t, x.cells.set j (.osl H.length 0 0 sz)⟩) ++ [some ⟨t, []⟩], M⟩) : AX P m c Q ⟨fr, H, M⟩ := by
  have hol := (List.getElem?_eq_some_iff.1 ho).1
  refine AX_lead (S := fun s1 => s1 = ⟨fr, H ++ [some ⟨t, []⟩], M⟩) (.of (.more t rfl)) fun s' e => ?_
  subst e
  refine AX_lead (S := fun s1 => s1 = ⟨fr, H.set o (some ⟨x.t, x.cells.set j (.osl H.length 0 0 sz)⟩) ++ [some ⟨t, []⟩], M⟩) (.of (.cellNilAt o H.length sz j x ⟨t, []⟩ (by rw [List.getElem?_append_left hol]; exact ho) hj (by simp) ?_)) fun s' e => by rw [e]; exact h
  show (⟨_, _, _⟩ : XS) = _
  rw [List.set_append_left _ _ hol]
end Go.Proofs.YthfjnlapelkbnaaDoor
namespace Go.Proofs.YthfjnlapelkbnaaDoor
open Go.Lib
set_option linter.unusedVariables false
theorem dv_pow : ∀ (l : List UInt8) (a : Nat), a * 10 ^ l.length ≤ dv a l
  | [], a => by rw [show dv a [] = a from rfl, List.length_nil, Nat.pow_zero, Nat.mul_one]; exact Nat.le_refl _
  | c :: r, a => by
    have h := dv_pow r (a * 10 + (c.toNat - 48))
    have h2 : a * 10 ^ (c :: r).length = (a * 10) * 10 ^ r.length := by rw [List.length_cons, Nat.pow_succ, Nat.mul_assoc, Nat.mul_comm 10]
    rw [h2]
    exact Nat.le_trans (Nat.mul_le_mul_right _ (by omega)) h
theorem dv_big {m : List UInt8} (hd : m.all isDg = true) (hz : noLz m = true) (h : 19 < m.length) : 10000000000000000000 ≤ dv 0 m := by
  cases m with
  | nil => simp at h
  | cons c r =>
    have hc : c.toNat ≠ 48 := by
      have : ¬ (c :: r).length = 1 := by omega
      unfold noLz at hz; rw [decide_eq_false this] at hz; simpa using hz
    have hdc : 48 ≤ c.toNat ∧ c.toNat ≤ 57 := of_decide_eq_true (by simp only [List.all_cons, Bool.and_eq_true] at hd; exact hd.1)
    have h1 := dv_pow r (0 * 10 + (c.toNat - 48))
    have h2 : 10 ^ 19 ≤ 10 ^ r.length := Nat.pow_le_pow_right (by omega) (by simp at h; omega)
    have h3 : 1 * 10 ^ r.length ≤ (0 * 10 + (c.toNat - 48)) * 10 ^ r.length := Nat.mul_le_mul_right _ (by omega)
    show _ ≤ dv (0 * 10 + (c.toNat - 48)) r
    omega
theorem itoa_ne {l : List UInt8} {n : Int} (h : n ≠ numV l) : itoa n ≠ l := fun e => h (by rw [← e, (itoa_num n).2])
def frm (l : List UInt8) : Nat := match l with | 45 :: _ => 1 | _ => 0
theorem frm_minus (r : List UInt8) : frm (45 :: r) = 1 := rfl
theorem frm_plain {c : UInt8} {r : List UInt8} (h : c ≠ 45) : frm (c :: r) = 0 := by
  unfold frm; split
  · rename_i e; simp at e; exact absurd e.1 h
  · rfl
theorem frm_mag (l : List UInt8) : magOf l = l.drop (frm l) ∧ frm l ≤ l.length ∧ frm l ≤ 1 := by
  cases l with
  | nil => exact ⟨rfl, Nat.le_refl _, Nat.zero_le _⟩
  | cons c r =>
    by_cases hc : c = 45
    · subst hc; rw [magOf_minus, frm_minus]; exact ⟨rfl, by simp, Nat.le_refl _⟩
    · rw [magOf_plain hc, frm_plain hc]; exact ⟨rfl, Nat.zero_le _, Nat.zero_le _⟩
theorem frm_num (l : List UInt8) : numV l = if frm l = 1 then -(dv 0 (magOf l) : Int) else dv 0 (magOf l) := by
  cases l with
  | nil => rfl
  | cons c r =>
    by_cases hc : c = 45
    · subst hc; rw [magOf_minus, frm_minus, numV_minus, if_pos rfl]
    · rw [magOf_plain hc, frm_plain hc, numV_plain hc, if_neg (by omega)]
theorem form_no {l : List UInt8} (h1 : (magOf l).getD 0 0 = 48) (h2 : 1 < l.length) : numOk l = false := by
  cases l with
  | nil => simp at h2
  | cons c r =>
    by_cases hc : c = 45
    · subst hc
      rw [magOf_minus] at h1
      cases r with
      | nil => simp at h2
      | cons d q =>
        have hd : d = 48 := h1
        subst hd
        unfold numOk
        rw [magOf_minus]
        cases q with
        | nil => rfl
        | cons e q => simp [noLz]
    · rw [magOf_plain hc] at h1
      have hd : c = 48 := h1
      subst hd
      unfold numOk
      rw [magOf_plain hc]
      have e : ¬ ((48 : UInt8) :: r).length = 1 := by omega
      unfold noLz; rw [decide_eq_false e]; simp
theorem form_yes {l : List UInt8} (h0 : magOf l ≠ []) (h : ¬ ((magOf l).getD 0 0 = 48 ∧ 1 < l.length)) : numOk l = (magOf l).all isDg ∧ noLz (magOf l) = true := by
  have hne : (magOf l).isEmpty = false := by cases e : magOf l with | nil => exact absurd e h0 | cons _ _ => rfl
  have h45 : (l != [45, 48]) = true := by
    have : l ≠ [45, 48] := fun e => h (by rw [e]; exact ⟨rfl, by decide⟩)
    simpa using this
  have hz : noLz (magOf l) = true := by
    obtain ⟨e1, e2, e3⟩ := frm_mag l
    have hlen : (magOf l).length ≤ l.length := by rw [e1, List.length_drop]; omega
    cases hm : magOf l with
    | nil => exact absurd hm h0
    | cons c r =>
      rw [hm] at h hlen
      by_cases h1 : 1 < l.length
      · have hc : ¬ c = 48 := fun e => h ⟨e, h1⟩
        have hc2 : c.toNat ≠ 48 := fun e => hc (UInt8.toNat_inj.1 (by rw [e]; rfl))
        unfold noLz; simp [hc2]
      · have : (c :: r).length = 1 := by have h9 : (c :: r).length = r.length + 1 := rfl; omega
        unfold noLz; rw [decide_eq_true this]; rfl
  exact ⟨by unfold numOk; rw [hne, h45, hz]; simp, hz⟩
end Go.Proofs.YthfjnlapelkbnaaDoor
namespace Go.Proofs.YthfjnlapelkbnaaDoor
open Go.RowKit
theorem wf_i05 {a : Int} (h : (Lit.int .i64 a).wf = true) : -9223372036854775808 ≤ a ∧ a ≤ 9223372036854775807 := by
  have e1 : IntKind.i64.min = -9223372036854775808 := by decide
  have e2 : IntKind.i64.max = 9223372036854775807 := by decide
  simpa [Lit.wf, e1, e2] using h
end Go.Proofs.YthfjnlapelkbnaaDoor
