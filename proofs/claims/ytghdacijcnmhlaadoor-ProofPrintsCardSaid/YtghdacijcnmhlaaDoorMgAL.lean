import Derived.Test.YtghdacijcnmhlaaDoorMgAK
import Derived.Test.YtghdacijcnmhlaaDoorMgAI
namespace Go.Proofs.YtghdacijcnmhlaaDoor
variable {P : Program} {m : Nat} {Q : Exit → XS → Prop}
end Go.Proofs.YtghdacijcnmhlaaDoor
namespace Go.Proofs.YtghdacijcnmhlaaDoor
theorem Leads.more {m : Nat} {s : AS} {S : AS → Prop} (t : Nat) (h : S ⟨s.fr, s.H ++ [some ⟨t, []⟩]⟩) : Leads m s S := fun G a w hm hr => by
  have hd : ¬ G.dom s.H.length := hr.inv.new
  have hle := Gh.more_le G (m := s.H.length) (n := s.H.length) (Nat.le_refl _) hd (0, 0) 0
  refine ⟨G.more s.H.length (0, 0) 0, _, hle.leb hm, by simp; omega, ⟨hr.defers, ?_, ?_⟩, h⟩
  · exact hr.fr.mono hle (by simp)
  · have hi0 := hr.inv
    have old : ∀ {o x}, (s.H ++ [some (AObj.mk t [])])[o]? = some (some x) → (o = s.H.length ∧ x = ⟨t, []⟩) ∨ (o < s.H.length ∧ s.H[o]? = some (some x)) := fun {o x} e => by
      rcases Nat.lt_or_ge o s.H.length with h1 | h1
      · rw [List.getElem?_append_left h1] at e; exact .inr ⟨h1, e⟩
      · rw [List.getElem?_append_right h1] at e
        have h2 := (List.getElem?_eq_some_iff.1 e).1
        simp at h2
        have h3 : o = s.H.length := by omega
        subst h3; simp at e; exact .inl ⟨rfl, e.symm⟩
    have mu' : ∀ {o}, o < s.H.length → (G.more s.H.length (0, 0) 0).mu o = G.mu o ∧ (G.more s.H.length (0, 0) 0).sz o = G.sz o := fun {o} ho => ⟨if_neg (by omega), if_neg (by omega)⟩
    refine ⟨hi0.os, hi0.tape, hi0.output, hi0.fz, hi0.kp, fun o ho => ?_, fun o x e => ?_, fun o x e => ?_, fun o o' x x' e e' hne z z' => ?_⟩
    · rcases ho with rfl | ho
      · simp
      · have := hi0.dom o ho; simp; omega
    · rcases old e with ⟨rfl, _⟩ | ⟨_, e⟩
      · exact .inl rfl
      · exact .inr (hi0.live o x e)
    · rcases old e with ⟨rfl, rfl⟩ | ⟨h1, e⟩
      · exact .inl ⟨rfl, if_pos rfl⟩
      · obtain ⟨m1, m2⟩ := mu' h1
        rcases hi0.obj o x e with ⟨c1, c2⟩ | ⟨c1, cs, k1, k2, k3, k4, k5, k6⟩
        · exact .inl ⟨c1, m2.trans c2⟩
        · exact .inr ⟨by rw [m2]; exact c1, cs, by rw [m1]; exact k1, by rw [m2]; exact k2, by rw [m1]; exact k3.mono hle (by simp), k4, by rw [m1]; exact k5, by rw [m1]; exact k6⟩
    · rcases old e with ⟨rfl, rfl⟩ | ⟨h1, e⟩
      · exact absurd (if_pos rfl) z
      · rcases old e' with ⟨rfl, rfl⟩ | ⟨h2, e'⟩
        · exact absurd (if_pos rfl) z'
        · rw [(mu' h1).1, (mu' h2).1]
          exact hi0.inj o o' x x' e e' hne (by rw [← (mu' h1).2]; exact z) (by rw [← (mu' h2).2]; exact z')
theorem Leads.cellNilAt {m : Nat} {s : AS} {S : AS → Prop} (o q sz j : Nat) (x y : AObj) (ho : s.H[o]? = some (some x)) (hj : x.cells[j]? = some (lt (.slice none 0 0))) (hq : s.H[q]? = some (some y)) (h : S ⟨s.fr, s.H.set o (some ⟨x.t, x.cells.set j (.osl q 0 0 sz)⟩)⟩) : Leads m s S := fun G a w hm hr => by
  have hjl := (List.getElem?_eq_some_iff.1 hj).1
  refine ⟨G, _, Gh.leb.refl _ _, by show m ≤ (s.H.set _ _).length; rw [List.length_set]; exact hm, ⟨hr.defers, ?_, ?_⟩, h⟩
  · show RL (s.H.set _ _).length _ _ _
    rw [List.length_set]; exact hr.fr
  · have hne : x.cells ≠ [] := fun e => by rw [e] at hjl; simp at hjl
    have hone := (hr.inv.obj o x ho)
    refine hr.inv.recell ho hne (x.cells.set j (.osl q 0 0 sz)) (by simp) ?_ fun vs hv => ?_
    · rcases hone with ⟨e, _⟩ | ⟨_, cs, _, _, _, h4, _⟩
      · exact absurd e hne
      · rw [List.all_eq_true] at h4 ⊢
        intro z hz
        rcases List.mem_or_eq_of_mem_set hz with h5 | h5
        · exact h4 z h5
        · subst h5; rfl
    · obtain ⟨v, hv1, hv2⟩ := hv.at hj
      have := hv2.lit_inv; subst this
      have hset : vs = vs.set j (.slice none 0 0) := by
        apply List.ext_getElem?
        intro k
        by_cases hk : j = k
        · subst hk; rw [List.getElem?_set_self (List.getElem?_eq_some_iff.1 hv1).1, hv1]
        · rw [List.getElem?_set_ne hk]
      rw [hset]
      exact hv.set j (.onil q 0 sz (hr.inv.live q y hq))
variable {P : Program} {m : Nat} {Q : Exit → XS → Prop}
theorem AX_cellNew {fr : List AV} {H : AHeap} {M : MS} {c : Code} (o t sz j : Nat) (x : AObj) (ho : H[o]? = some (some x)) (hj : x.cells[j]? = some (lt (.slice none 0 0))) (h : AX P m c Q ⟨fr, H.set o (some ⟨x.t, x.cells.set j (.osl H.length 0 0 sz)⟩) ++ [some ⟨t, []⟩], M⟩) : AX P m c Q ⟨fr, H, M⟩ := by
  have hol := (List.getElem?_eq_some_iff.1 ho).1
  refine AX_lead (S := fun s1 => s1 = ⟨fr, H ++ [some ⟨t, []⟩], M⟩) (.of (.more t rfl)) fun s' e => ?_
  subst e
  refine AX_lead (S := fun s1 => s1 = ⟨fr, H.set o (some ⟨x.t, x.cells.set j (.osl H.length 0 0 sz)⟩) ++ [some ⟨t, []⟩], M⟩) (.of (.cellNilAt o H.length sz j x ⟨t, []⟩ (by rw [List.getElem?_append_left hol]; exact ho) hj (by simp) ?_)) fun s' e => by rw [e]; exact h
  show (⟨_, _, _⟩ : XS) = _
  rw [List.set_append_left _ _ hol]
end Go.Proofs.YtghdacijcnmhlaaDoor
namespace Go.Proofs.YtghdacijcnmhlaaDoor
set_option linter.unusedSimpArgs false
def rowB : List (Nat × List UInt8) → List UInt8
  | [] => []
  | t :: ts => t.2 ++ ts.flatMap fun x => 32 :: x.2
def joinB (rs : List (Nat × Nat × List (Nat × List UInt8))) : List UInt8 := rs.flatMap fun r => rowB r.2.2 ++ [10]
end Go.Proofs.YtghdacijcnmhlaaDoor
namespace Go.Proofs.YtghdacijcnmhlaaDoor
structure Op5 where
  p : Int
  k : Int
  s : Int
  e : Int
  r : Int
def oAhead (a b : Op5) : Bool := decide (0 ≤ a.e ∧ a.e < b.s)
def oMay (x : Op5) : Int :=
  if ¬ (1 ≤ x.p ∧ x.p ≤ 1000) ∨ ¬ (0 ≤ x.s ∧ x.s ≤ 9999) then 2 else if ¬ (0 ≤ x.k ∧ x.k ≤ 63) then 31 else if x.e = -1 ∧ x.r = -1 then 0 else if ¬ (x.s + 1 ≤ x.e ∧ x.e ≤ 9999) ∨ ¬ (0 ≤ x.r ∧ x.r ≤ 1000000) then 7 else 0
def oMeets (a b : Op5) : Prop := a.s = b.s ∨ a.e = b.s ∨ a.s = b.e ∨ (a.e = b.e ∧ a.e ≠ -1)
instance (a b : Op5) : Decidable (oMeets a b) := by unfold oMeets; infer_instance
def oAt (xs : List Op5) (i : Nat) : Op5 := xs.getD i ⟨0, 0, 0, 0, 0⟩
def oOrd (xs : List Op5) (i : Nat) (o : Op5) : Prop := ∃ k, k < i ∧ ((oAt xs k).s ≥ o.s ∨ oMeets (oAt xs k) o)
def oOpen (xs : List Op5) (i : Nat) (o : Op5) : Prop := ∃ k, k < i ∧ (oAt xs k).p = o.p ∧ oAhead (oAt xs k) o = false
instance (xs : List Op5) (i : Nat) (o : Op5) : Decidable (oOrd xs i o) := by unfold oOrd; infer_instance
instance (xs : List Op5) (i : Nat) (o : Op5) : Decidable (oOpen xs i o) := by unfold oOpen; infer_instance
def oErr (xs : List Op5) (i : Nat) : Int := if oMay (oAt xs i) ≠ 0 then oMay (oAt xs i) else if oOrd xs i (oAt xs i) then 32 else if oOpen xs i (oAt xs i) then 33 else 0
def oGood (xs : List Op5) (k : Nat) : Prop := ∀ i, i < k → oErr xs i = 0
instance (xs : List Op5) (k : Nat) : Decidable (oGood xs k) := by unfold oGood; infer_instance
theorem oGood.succ {xs : List Op5} {k : Nat} (h : oGood xs k) (he : oErr xs k = 0) : oGood xs (k + 1) := fun i hi => by
  rcases Nat.lt_or_ge i k with h1 | h1
  · exact h i h1
  · obtain rfl : i = k := by omega
    exact he
theorem oErr_zero {xs : List Op5} {i : Nat} (h : oErr xs i = 0) : oMay (oAt xs i) = 0 ∧ ¬ oOrd xs i (oAt xs i) ∧ ¬ oOpen xs i (oAt xs i) := by
  unfold oErr at h
  split at h
  · exact absurd h ‹_›
  · rename_i h1
    split at h
    · omega
    · split at h
      · omega
      · exact ⟨by simpa using h1, ‹_›, ‹_›⟩
theorem oGood.apart {xs : List Op5} {k : Nat} (h : oGood xs k) {i j : Nat} (hij : i < j) (hj : j < k) (hp : (oAt xs i).p = (oAt xs j).p) : oAhead (oAt xs i) (oAt xs j) = true := by
  have := (oErr_zero (h j hj)).2.2
  cases h1 : oAhead (oAt xs i) (oAt xs j)
  · exact absurd ⟨i, hij, hp, h1⟩ this
  · rfl
def oTaken (xs : List Op5) (k : Nat) (n : Int) : Prop := ∃ i, i < k ∧ ((oAt xs i).s = n ∨ ((oAt xs i).e = n ∧ (oAt xs i).e ≠ -1))
instance (xs : List Op5) (k : Nat) (n : Int) : Decidable (oTaken xs k n) := by unfold oTaken; infer_instance
def oLast (xs : List Op5) : Nat → Int → Option Op5
  | 0, _ => none
  | k + 1, p => if (oAt xs k).p = p then some (oAt xs k) else oLast xs k p
def OChk (xs : List Op5) (at' c : Int) : Prop :=
  (5000 < xs.length ∧ at' = 0 ∧ c = 3) ∨ (xs.length ≤ 5000 ∧ ∃ i : Nat, i < xs.length ∧ oGood xs i ∧ oErr xs i ≠ 0 ∧ at' = i ∧ c = oErr xs i) ∨ (xs.length ≤ 5000 ∧ oGood xs xs.length ∧ at' = xs.length ∧ c = 0)
def oPairs (xs : List Op5) : List (Int × Int) := (List.range xs.length).flatMap fun i => ((List.range xs.length).filter fun j => oAhead (oAt xs i) (oAt xs j)).map fun j : Nat => ((i : Int), (j : Int))
def oPend (xs : List Op5) : List Int := ((List.range xs.length).filter fun i => decide ((oAt xs i).e = -1)).map fun i : Nat => (i : Int)
end Go.Proofs.YtghdacijcnmhlaaDoor
