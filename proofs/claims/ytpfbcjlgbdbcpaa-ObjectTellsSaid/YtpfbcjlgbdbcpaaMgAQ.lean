import Derived.Test.YtpfbcjlgbdbcpaaMgAP
namespace Go.Proofs.Ytpfbcjlgbdbcpaa
set_option linter.unusedVariables false
def cnR (xs : List Rw) (p : Rw → Bool) : Nat → Nat
  | 0 => 0
  | k + 1 => cnR xs p k + (if p (rwAt xs k) = true then 1 else 0)
def hitR (st kd : Int) (r : Rw) : Bool := decide (r.s = st ∧ r.k = kd)
end Go.Proofs.Ytpfbcjlgbdbcpaa
namespace Go.Proofs.Ytpfbcjlgbdbcpaa
set_option linter.unusedVariables false
def clsd (o : Ob) (E : List Bool) : Prop := ∀ i, i < o.R.length → E.getD (rwAt o.R i).s.toNat false = true → E.getD (rwAt o.R i).n.toNat false = true
theorem setT_same {D : List Bool} {p : Nat} (h : D.getD p false = true) : D.set p true = D := by
  have hp : p < D.length := by
    rcases Nat.lt_or_ge p D.length with h1 | h1
    · exact h1
    · rw [List.getD_eq_getElem?_getD, List.getElem?_eq_none h1] at h; cases h
  apply List.ext_getElem (by simp)
  intro i h1 h2
  rw [List.getElem_set]
  split
  · rename_i e
    subst e
    rw [List.getD_eq_getElem?_getD, List.getElem?_eq_getElem hp] at h
    exact h.symm
  · rfl
def rndI (o : Ob) (D E : List Bool) (S i : Nat) : Prop := (E = D ∧ ∀ j, j < i → D.getD (rwAt o.R j).s.toNat false = true → D.getD (rwAt o.R j).n.toNat false = true) ∨ (¬ clsd o D ∧ cF E S + 1 ≤ cF D S)
theorem rnd_skip {o : Ob} {D E : List Bool} {S i : Nat} (h : rndI o D E S i) (hk : ¬ (E.getD (rwAt o.R i).s.toNat false = true ∧ E.getD (rwAt o.R i).n.toNat false = false)) : rndI o D E S (i + 1) := by
  rcases h with ⟨rfl, h⟩ | h
  · refine .inl ⟨rfl, fun j hj hs => ?_⟩
    rcases Nat.lt_or_ge j i with h1 | h1
    · exact h j h1 hs
    · obtain rfl : j = i := by omega
      cases e : E.getD (rwAt o.R j).n.toNat false with
      | true => rfl
      | false => exact absurd ⟨hs, e⟩ hk
  · exact .inr h
theorem rnd_set {o : Ob} {D E : List Bool} {S i : Nat} (h : rndI o D E S i) (hi : i < o.R.length) (hp : (rwAt o.R i).n.toNat < E.length) (hS : (rwAt o.R i).n.toNat < S) (h1 : E.getD (rwAt o.R i).s.toNat false = true) (h2 : E.getD (rwAt o.R i).n.toNat false = false) : rndI o D (E.set (rwAt o.R i).n.toNat true) S (i + 1) := by
  have hc := cF_set hp h2 S
  rw [if_pos hS] at hc
  rcases h with ⟨rfl, h⟩ | ⟨h, h3⟩
  · exact .inr ⟨(fun hcl => by rw [hcl i hi h1] at h2; cases h2), by omega⟩
  · exact .inr ⟨h, by omega⟩
def rndO (o : Ob) (E : List Bool) (S n : Nat) : Prop := clsd o E ∨ cF E S + n + 1 ≤ S
theorem rnd_end {o : Ob} {D E : List Bool} {S n : Nat} (h : rndO o D S n) (hr : rndI o D E S o.R.length) : rndO o E S (n + 1) := by
  rcases hr with ⟨rfl, h2⟩ | ⟨h2, h3⟩
  · exact .inl h2
  · rcases h with h | h
    · exact absurd h h2
    · exact .inr (by omega)
theorem cF_le (D : List Bool) : ∀ k, cF D k ≤ k
  | 0 => Nat.le_refl _
  | k + 1 => by have := cF_le D k; unfold cF; split <;> omega
theorem cF_lt {D : List Bool} {q : Nat} (h : D.getD q false = true) : ∀ k, q < k → cF D k + 1 ≤ k
  | 0, h0 => by omega
  | k + 1, h0 => by
    unfold cF
    rcases Nat.lt_or_ge q k with h1 | h1
    · have := cF_lt h k h1; split <;> omega
    · have := cF_le D k
      rw [show k = q by omega] at this ⊢
      rw [if_pos h]; omega
theorem nbL_congr {D E : List Bool} : ∀ k, (∀ i, i < k → D.getD i false = E.getD i false) → nbL D k = nbL E k
  | 0, _ => rfl
  | k + 1, h => by unfold nbL; rw [nbL_congr k fun i hi => h i (by omega), h k (by omega)]
theorem rnd_reL {o : Ob} (h : obE o = 0) {E : List Bool} {S : Nat} (hS : o.S.toNat = S) (hl : S ≤ E.length) (hI : E.getD o.I.toNat false = true) (hs : ∀ s, s < E.length → E.getD s false = true → obRe o (s : Int)) (hc : clsd o E) : nbL E S = reL o := by
  obtain ⟨hh, herr⟩ := obE_zero.1 h
  unfold obHead at hh
  have e : ∀ i, i < S → (E.take S).getD i false = E.getD i false := fun i hi => by
    rw [List.getD_eq_getElem?_getD, List.getD_eq_getElem?_getD, List.getElem?_take, if_pos hi]
  have hD : E.take S = reD o := reD_eq h (by rw [List.length_take, hS]; omega) (by rw [e _ (by omega)]; exact hI) (fun s hs1 hs2 => by
    rw [List.length_take] at hs1
    rw [e _ (by omega)] at hs2
    exact hs s (by omega) hs2) (fun i hi h1 => by
    have he := obErr_zero (herr i hi)
    rw [e _ (by omega)] at h1 ⊢
    exact hc i hi h1)
  unfold reL
  rw [if_pos h, hS, ← hD]
  exact (nbL_congr S e).symm
end Go.Proofs.Ytpfbcjlgbdbcpaa
namespace Go.Proofs.Ytpfbcjlgbdbcpaa
open Go.Sort
set_option linter.unusedVariables false
theorem lexR_tot {x y : Rw} (h1 : ¬ lexR x y) (h2 : ¬ lexR y x) : x = y := by
  unfold lexR at h1 h2
  exact Rw.ext' (by omega) (by omega) (by omega) (by omega)
theorem sorted_eq : ∀ (a b : List Rw), a.Perm b → a.Pairwise (fun x y => ¬ lexR y x) → b.Pairwise (fun x y => ¬ lexR y x) → a = b
  | [], b, h, _, _ => (List.nil_perm.1 h).symm
  | x :: a, [], h, _, _ => by have := h.length_eq; simp at this
  | x :: a, y :: b, h, h1, h2 => by
    rw [List.pairwise_cons] at h1 h2
    have hx : x ∈ y :: b := h.mem_iff.1 (List.mem_cons_self ..)
    have hy : y ∈ x :: a := h.mem_iff.2 (List.mem_cons_self ..)
    have e : x = y := by
      rcases List.mem_cons.1 hx with h3 | h3
      · exact h3
      · rcases List.mem_cons.1 hy with h4 | h4
        · exact h4.symm
        · exact lexR_tot (h2.1 x h3) (h1.1 y h4)
    subst e
    rw [sorted_eq a b (List.Perm.cons_inv h) h1.2 h2.2]
theorem srtR_sorted (xs : List Rw) : (srtR xs).Pairwise fun x y => ¬ lexR y x := by
  have h := List.pairwise_mergeSort (le := fun x y => !(ltOf cfR) y x) (fun a b c h1 h2 => by
    rw [cfR_lt, Bool.not_eq_true', decide_eq_false_iff_not] at *
    unfold lexR at *; omega) (fun a b => by
    rw [cfR_lt, cfR_lt, Bool.or_eq_true, Bool.not_eq_true', Bool.not_eq_true', decide_eq_false_iff_not, decide_eq_false_iff_not]
    unfold lexR; omega) xs
  exact h.imp fun {a b} h => by rwa [cfR_lt, Bool.not_eq_true', decide_eq_false_iff_not] at h
theorem srtR_uniq {l l' : List Rw} (hp : l'.Perm l) (hs : l'.Pairwise fun x y => ¬ lexR y x) : srtR l = l' :=
  sorted_eq _ _ ((srtR_perm l).trans hp.symm) (srtR_sorted l) hs
theorem srtR_ins {l : List Rw} {x : Rw} {k : Nat} (hk : k ≤ l.length) (h1 : ∀ j, j < k → ¬ lexR x (rwAt (srtR l) j)) (h2 : k < l.length → lexR x (rwAt (srtR l) k)) : srtR (l ++ [x]) = (srtR l).take k ++ x :: (srtR l).drop k := by
  have hs := srtR_sorted l
  have hl := srtR_len l
  have hp := srtR_perm l
  generalize srtR l = S at *
  refine srtR_uniq ?_ ?_
  · have e1 : (S.take k ++ x :: S.drop k).Perm (x :: (S.take k ++ S.drop k)) := List.perm_middle
    rw [List.take_append_drop] at e1
    exact e1.trans ((List.Perm.cons x hp).trans (List.perm_append_comm (l₁ := [x]) (l₂ := l)))
  · have hsp := hs
    rw [← List.take_append_drop k S, List.pairwise_append] at hsp
    have hpw := List.pairwise_iff_getElem.1 hs
    refine List.pairwise_append.2 ⟨hsp.1, List.pairwise_cons.2 ⟨fun y hy => ?_, hsp.2.1⟩, fun a ha b hb => ?_⟩
    · obtain ⟨i, hi, rfl⟩ := List.mem_iff_getElem.1 hy
      rw [List.length_drop] at hi
      rw [List.getElem_drop]
      have h3 := h2 (by omega)
      rw [rwAt_get (by omega : k < S.length)] at h3
      rcases Nat.eq_zero_or_pos i with h0 | h0
      · subst h0; simp only [Nat.add_zero]; unfold lexR at *; omega
      · have h4 := hpw k (k + i) (by omega) (by omega) (by omega)
        unfold lexR at *; omega
    · rcases List.mem_cons.1 hb with rfl | hb
      · obtain ⟨i, hi, rfl⟩ := List.mem_iff_getElem.1 ha
        rw [List.length_take] at hi
        rw [List.getElem_take]
        have := h1 i (by omega)
        rwa [rwAt_get (by omega)] at this
      · exact hsp.2.2 a ha b hb
end Go.Proofs.Ytpfbcjlgbdbcpaa
