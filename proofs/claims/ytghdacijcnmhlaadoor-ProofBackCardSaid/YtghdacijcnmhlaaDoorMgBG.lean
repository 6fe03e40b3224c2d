import Derived.Test.YtghdacijcnmhlaaDoorMgBC
import Derived.Test.YtghdacijcnmhlaaDoorMgBF
import Derived.Lib.ItoaLen
import Derived.Test.YtghdacijcnmhlaaDoorMgAO
import Derived.Test.YtghdacijcnmhlaaDoorMgBE
import Derived.Test.YtghdacijcnmhlaaDoorMgBD
import Derived.Test.YtghdacijcnmhlaaDoorMgAY
namespace Go.Proofs.YtghdacijcnmhlaaDoor
open Go.RowKit Go.Lib
structure Stp where
  k : Int
  i : Int
  L : List Int
  H : List Int
def st0 : Stp := ⟨0, 0, [], []⟩
def wD : List UInt8 := [100]
def nrow (lo hi : Int) (once : Bool) (le : Int) : List Tok3 → Nat → List Int → List Int × Nat × Int × Int
  | [], k, _ => ([], k, le, 4)
  | t :: T, k, acc =>
    if (numR t.2.2 lo hi).2 ≠ 0 then ([], k, t.2.1, (numR t.2.2 lo hi).2) else
    if (numR t.2.2 lo hi).1 = 0 then (acc, k + 1, 0, 0) else
    if acc.length = 1000 then ([], k, t.2.1, 3) else
    if once = true ∧ (numR t.2.2 lo hi).1 ∈ acc then ([], k, t.2.1, 21) else
    nrow lo hi once le T (k + 1) (acc ++ [(numR t.2.2 lo hi).1])
def idQ (W : List Tok3) : Int × Int := numR (W.getD 0 tok0).2.2 0 10000000
def delQ (W : List Tok3) : List Int × Nat × Int × Int := nrow 0 10000000 false (lastEnd W) (W.drop 2) 2 []
def litQ (W : List Tok3) : List Int × Nat × Int × Int := nrow (-100000) 100000 true (lastEnd W) (W.drop 1) 1 []
def hinQ (W : List Tok3) : List Int × Nat × Int × Int := nrow (-10000000) 10000000 false (lastEnd W) (W.drop (litQ W).2.1) (litQ W).2.1 []
def stepP (W : List Tok3) : Stp × Int × Int :=
  if (idQ W).2 ≠ 0 then (st0, (W.getD 0 tok0).2.1, (idQ W).2) else
  if 1 < W.length ∧ (W.getD 1 tok0).2.2 = wD then
    if (delQ W).2.2.2 ≠ 0 then (st0, (delQ W).2.2.1, (delQ W).2.2.2) else
    if (delQ W).2.1 < W.length then (st0, (W.getD (delQ W).2.1 tok0).2.1, 6) else (⟨2, (idQ W).1, [], (delQ W).1⟩, 0, 0)
  else
    if (litQ W).2.2.2 ≠ 0 then (st0, (litQ W).2.2.1, (litQ W).2.2.2) else
    if (hinQ W).2.2.2 ≠ 0 then (st0, (hinQ W).2.2.1, (hinQ W).2.2.2) else
    if (idQ W).1 = 0 then (st0, (W.getD 0 tok0).2.1, 7) else
    if (hinQ W).2.1 < W.length then (st0, (W.getD (hinQ W).2.1 tok0).2.1, 6) else (⟨1, (idQ W).1, (litQ W).1, (hinQ W).1⟩, 0, 0)
def stsGo (z : Int) : List (List Tok3) → List Stp → List Stp × Int × Int
  | [], xs => (xs, z, 0)
  | T :: L, xs => if T.length = 0 then stsGo z L xs else if (stepP T).2.2 ≠ 0 then ([], (stepP T).2.1, (stepP T).2.2) else stsGo z L (xs ++ [(stepP T).1])
def prp (l : List UInt8) : List Stp × Int × Int := stsGo l.length (lnsT l) []
theorem stsGo_nil {z : Int} {T : List Tok3} {L : List (List Tok3)} {xs : List Stp} (h : T.length = 0) : stsGo z (T :: L) xs = stsGo z L xs := if_pos h
theorem stsGo_bad {z : Int} {T : List Tok3} {L : List (List Tok3)} {xs : List Stp} (h : T.length ≠ 0) (h2 : (stepP T).2.2 ≠ 0) : stsGo z (T :: L) xs = ([], (stepP T).2.1, (stepP T).2.2) := by rw [stsGo, if_neg h, if_pos h2]
theorem stsGo_ok {z : Int} {T : List Tok3} {L : List (List Tok3)} {xs : List Stp} (h : T.length ≠ 0) (h2 : (stepP T).2.2 = 0) : stsGo z (T :: L) xs = stsGo z L (xs ++ [(stepP T).1]) := by rw [stsGo, if_neg h, if_neg (by rw [h2]; simp)]
theorem numR_in {l : List UInt8} {lo hi : Int} (h : (numR l lo hi).2 = 0) : lo ≤ (numR l lo hi).1 ∧ (numR l lo hi).1 ≤ hi := by
  unfold numR at h ⊢
  split at h
  · cases h
  · rename_i h1
    rw [if_neg h1]
    split at h
    · rename_i h2; rw [if_pos h2]; exact ⟨h2.2.2.1, h2.2.2.2⟩
    · cases h
theorem nrow_ok {lo hi : Int} {once : Bool} {le : Int} : ∀ (T : List Tok3) (k : Nat) (acc : List Int), (nrow lo hi once le T k acc).2.2.2 = 0 → acc.length ≤ 1000 → (∀ x ∈ acc, (lo ≤ x ∧ x ≤ hi) ∧ x ≠ 0) → (once = true → acc.Nodup) →
    (∀ x ∈ (nrow lo hi once le T k acc).1, (lo ≤ x ∧ x ≤ hi) ∧ x ≠ 0) ∧ (nrow lo hi once le T k acc).1.length ≤ 1000 ∧ (once = true → (nrow lo hi once le T k acc).1.Nodup) ∧ k < (nrow lo hi once le T k acc).2.1 ∧ (nrow lo hi once le T k acc).2.1 ≤ k + T.length ∧ (nrow lo hi once le T k acc).1.length ≤ acc.length + T.length
  | [], k, acc, h, _, _, _ => by cases h
  | t :: T, k, acc, h, h1, h2, h3 => by
    rw [nrow] at h ⊢
    by_cases c1 : (numR t.2.2 lo hi).2 ≠ 0
    · rw [if_pos c1] at h; exact absurd h c1
    · rw [if_neg c1] at h ⊢
      by_cases c2 : (numR t.2.2 lo hi).1 = 0
      · rw [if_pos c2]
        exact ⟨h2, h1, h3, Nat.lt_succ_self k, by show k + 1 ≤ k + (t :: T).length; rw [List.length_cons]; omega, Nat.le_add_right _ _⟩
      · rw [if_neg c2] at h ⊢
        by_cases c3 : acc.length = 1000
        · rw [if_pos c3] at h; cases h
        · rw [if_neg c3] at h ⊢
          by_cases c4 : once = true ∧ (numR t.2.2 lo hi).1 ∈ acc
          · rw [if_pos c4] at h; cases h
          · rw [if_neg c4] at h ⊢
            have hb := numR_in (Classical.not_not.1 c1)
            obtain ⟨a1, a2, a3, a4, a5, a6⟩ := nrow_ok T (k + 1) _ h (by rw [List.length_append, List.length_singleton]; omega) (fun x hx => by
              rcases List.mem_append.1 hx with hx | hx
              · exact h2 x hx
              · rw [List.mem_singleton] at hx; subst hx; exact ⟨hb, c2⟩) (fun ho => List.nodup_append.2 ⟨h3 ho, by simp, fun a ha b hb2 e => by
                rw [List.mem_singleton] at hb2; subst hb2 e; exact c4 ⟨ho, ha⟩⟩)
            rw [List.length_append, List.length_singleton] at a6
            exact ⟨a1, a2, a3, by omega, by rw [List.length_cons]; omega, by rw [List.length_cons]; omega⟩
end Go.Proofs.YtghdacijcnmhlaaDoor
namespace Go.Proofs.YtghdacijcnmhlaaDoor
open Go.RowKit Go.Lib
def hOk (lo : Int) (H : List Int) : Prop := H.length ≤ 1000 ∧ ∀ x ∈ H, (lo ≤ x ∧ x ≤ 10000000) ∧ x ≠ 0
instance (lo : Int) (H : List Int) : Decidable (hOk lo H) := inferInstanceAs (Decidable (_ ∧ _))
def stOk (s : Stp) : Prop := (s.k = 1 ∧ (1 ≤ s.i ∧ s.i ≤ 10000000) ∧ cCheck s.L 100000 = 0 ∧ hOk (-10000000) s.H) ∨ (s.k = 2 ∧ (0 ≤ s.i ∧ s.i ≤ 10000000) ∧ s.L = [] ∧ hOk 1 s.H)
instance (s : Stp) : Decidable (stOk s) := inferInstanceAs (Decidable (_ ∨ _))
theorem cCheck_is {L : List Int} (h1 : L.length ≤ 1000) (h2 : ∀ x ∈ L, (-100000 ≤ x ∧ x ≤ 100000) ∧ x ≠ 0) (h3 : L.Nodup) : cCheck L 100000 = 0 := by
  unfold cCheck
  rw [if_neg (by omega), if_neg (by omega), if_neg, if_pos h3]
  rw [Bool.not_eq_false, List.all_eq_true]
  intro x hx
  obtain ⟨⟨a, b⟩, c⟩ := h2 x hx
  have : lcheck x 100000 = 0 := by
    rw [lcheck_max]; unfold lvar; split
    · omega
    · split <;> omega
  simpa using this
theorem cCheck_in {L : List Int} (h : cCheck L 100000 = 0) : L.length ≤ 1000 ∧ (∀ x ∈ L, (-100000 ≤ x ∧ x ≤ 100000) ∧ x ≠ 0) ∧ L.Nodup := by
  unfold cCheck at h
  split at h
  · cases h
  · split at h
    · cases h
    · split at h
      · cases h
      · split at h
        · rename_i h1 h2 h3 h4
          rw [Bool.not_eq_false, List.all_eq_true] at h3
          refine ⟨by omega, fun x hx => ?_, h4⟩
          have h5 : lcheck x 100000 = 0 := by simpa using h3 x hx
          have := lvar_range ((lcheck_max x).1 h5)
          exact ⟨⟨this.1, this.2.1⟩, this.2.2⟩
        · cases h
theorem nrow_len {lo hi : Int} {once : Bool} {le : Int} : ∀ (T : List Tok3) (k : Nat) (acc : List Int), (nrow lo hi once le T k acc).2.2.2 = 0 → (nrow lo hi once le T k acc).1.length + k + 1 = acc.length + (nrow lo hi once le T k acc).2.1
  | [], k, acc, h => by cases h
  | t :: T, k, acc, h => by
    rw [nrow] at h ⊢
    by_cases c1 : (numR t.2.2 lo hi).2 ≠ 0
    · rw [if_pos c1] at h; exact absurd h c1
    · rw [if_neg c1] at h ⊢
      by_cases c2 : (numR t.2.2 lo hi).1 = 0
      · rw [if_pos c2]; rfl
      · rw [if_neg c2] at h ⊢
        by_cases c3 : acc.length = 1000
        · rw [if_pos c3] at h; cases h
        · rw [if_neg c3] at h ⊢
          by_cases c4 : once = true ∧ (numR t.2.2 lo hi).1 ∈ acc
          · rw [if_pos c4] at h; cases h
          · rw [if_neg c4] at h ⊢
            have ih := nrow_len T (k + 1) _ h
            rw [List.length_append, List.length_singleton] at ih
            omega
theorem stepP_ok {T : List Tok3} (h : (stepP T).2.2 = 0) : stOk (stepP T).1 ∧ (stepP T).1.L.length + (stepP T).1.H.length + 3 ≤ T.length := by
  have hid : (idQ T).2 = 0 → 0 ≤ (idQ T).1 ∧ (idQ T).1 ≤ 10000000 := fun h => numR_in h
  unfold stepP at h ⊢
  by_cases c1 : (idQ T).2 ≠ 0
  · rw [if_pos c1] at h; exact absurd h c1
  · rw [if_neg c1] at h ⊢
    have hid := hid (Classical.not_not.1 c1)
    by_cases c2 : 1 < T.length ∧ (T.getD 1 tok0).2.2 = wD
    · rw [if_pos c2] at h ⊢
      by_cases c3 : (delQ T).2.2.2 ≠ 0
      · rw [if_pos c3] at h; exact absurd h c3
      · rw [if_neg c3] at h ⊢
        by_cases c4 : (delQ T).2.1 < T.length
        · rw [if_pos c4] at h; cases h
        · rw [if_neg c4]
          have c3 : (delQ T).2.2.2 = 0 := Classical.not_not.1 c3
          have hn := nrow_ok (T.drop 2) 2 [] (show (delQ T).2.2.2 = 0 from c3) (by simp) (by simp) (by simp)
          have hl := nrow_len (T.drop 2) 2 [] (show (delQ T).2.2.2 = 0 from c3)
          obtain ⟨a1, a2, _, _, a5, _⟩ := hn
          have e : delQ T = nrow 0 10000000 false (lastEnd T) (T.drop 2) 2 [] := rfl
          rw [← e] at a1 a2 a5 hl
          rw [List.length_drop] at a5
          simp only [List.length_nil] at hl
          refine ⟨.inr ⟨rfl, hid, rfl, a2, fun x hx => ?_⟩, by simp only [List.length_nil]; omega⟩
          have := a1 x hx
          exact ⟨by omega, this.2⟩
    · rw [if_neg c2] at h ⊢
      by_cases c3 : (litQ T).2.2.2 ≠ 0
      · rw [if_pos c3] at h; exact absurd h c3
      · rw [if_neg c3] at h ⊢
        by_cases c4 : (hinQ T).2.2.2 ≠ 0
        · rw [if_pos c4] at h; exact absurd h c4
        · rw [if_neg c4] at h ⊢
          by_cases c5 : (idQ T).1 = 0
          · rw [if_pos c5] at h; cases h
          · rw [if_neg c5] at h ⊢
            by_cases c6 : (hinQ T).2.1 < T.length
            · rw [if_pos c6] at h; cases h
            · rw [if_neg c6]
              have c3 : (litQ T).2.2.2 = 0 := Classical.not_not.1 c3
              have c4 : (hinQ T).2.2.2 = 0 := Classical.not_not.1 c4
              obtain ⟨a1, a2, a3, _, a5, _⟩ := nrow_ok (T.drop 1) 1 [] (show (litQ T).2.2.2 = 0 from c3) (by simp) (by simp) (by simp)
              have hl := nrow_len (T.drop 1) 1 [] (show (litQ T).2.2.2 = 0 from c3)
              obtain ⟨b1, b2, _, _, b5, _⟩ := nrow_ok (T.drop (litQ T).2.1) (litQ T).2.1 [] (show (hinQ T).2.2.2 = 0 from c4) (by simp) (by simp) (by simp)
              have hl2 := nrow_len (T.drop (litQ T).2.1) (litQ T).2.1 [] (show (hinQ T).2.2.2 = 0 from c4)
              have e : litQ T = nrow (-100000) 100000 true (lastEnd T) (T.drop 1) 1 [] := rfl
              have e2 : hinQ T = nrow (-10000000) 10000000 false (lastEnd T) (T.drop (litQ T).2.1) (litQ T).2.1 [] := rfl
              rw [← e] at a1 a2 a3 a5 hl
              rw [← e2] at b1 b2 b5 hl2
              rw [List.length_drop] at a5 b5
              simp only [List.length_nil] at hl hl2
              exact ⟨.inl ⟨rfl, ⟨by dsimp only; omega, hid.2⟩, cCheck_is a2 a1 (a3 rfl), b2, b1⟩, by dsimp only; omega⟩
theorem nrow_edge {lo hi : Int} {once : Bool} {le : Int} {T0 : List Tok3} (hle : ∃ t ∈ T0, t.2.1 + ((t.2.2.length : Nat) : Int) = le) : ∀ (T : List Tok3) (k : Nat) (acc : List Int), (∀ t ∈ T, t ∈ T0) → (nrow lo hi once le T k acc).2.2.2 ≠ 0 → ∃ t ∈ T0, (nrow lo hi once le T k acc).2.2.1 = t.2.1 ∨ (nrow lo hi once le T k acc).2.2.1 = t.2.1 + ((t.2.2.length : Nat) : Int)
  | [], k, acc, _, _ => by obtain ⟨t, h1, h2⟩ := hle; exact ⟨t, h1, .inr h2.symm⟩
  | t :: T, k, acc, hs, h => by
    rw [nrow] at h ⊢
    have ht := hs t (by simp)
    by_cases c1 : (numR t.2.2 lo hi).2 ≠ 0
    · rw [if_pos c1]; exact ⟨t, ht, .inl rfl⟩
    · rw [if_neg c1] at h ⊢
      by_cases c2 : (numR t.2.2 lo hi).1 = 0
      · rw [if_pos c2] at h; exact absurd rfl h
      · rw [if_neg c2] at h ⊢
        by_cases c3 : acc.length = 1000
        · rw [if_pos c3]; exact ⟨t, ht, .inl rfl⟩
        · rw [if_neg c3] at h ⊢
          by_cases c4 : once = true ∧ (numR t.2.2 lo hi).1 ∈ acc
          · rw [if_pos c4]; exact ⟨t, ht, .inl rfl⟩
          · rw [if_neg c4] at h ⊢
            exact nrow_edge hle T _ _ (fun t ht => hs t (by simp [ht])) h
theorem getP_mem {T : List Tok3} {k : Nat} (h : k < T.length) : T.getD k tok0 ∈ T := by
  rw [List.getD_eq_getElem?_getD, List.getElem?_eq_getElem h]; exact List.getElem_mem h
theorem stepP_edge {T : List Tok3} (h0 : T.length ≠ 0) (h : (stepP T).2.2 ≠ 0) : ∃ t ∈ T, (stepP T).2.1 = t.2.1 ∨ (stepP T).2.1 = t.2.1 + ((t.2.2.length : Nat) : Int) := by
  have hle : ∃ t ∈ T, t.2.1 + ((t.2.2.length : Nat) : Int) = lastEnd T := ⟨_, getP_mem (k := T.length - 1) (by omega), rfl⟩
  have hd : ∀ k, ∀ t ∈ T.drop k, t ∈ T := fun k t ht => List.mem_of_mem_drop ht
  have h00 : T.getD 0 tok0 ∈ T := getP_mem (by omega)
  unfold stepP at h ⊢
  by_cases c1 : (idQ T).2 ≠ 0
  · rw [if_pos c1]; exact ⟨_, h00, .inl rfl⟩
  · rw [if_neg c1] at h ⊢
    by_cases c2 : 1 < T.length ∧ (T.getD 1 tok0).2.2 = wD
    · rw [if_pos c2] at h ⊢
      by_cases c3 : (delQ T).2.2.2 ≠ 0
      · rw [if_pos c3]; exact nrow_edge hle _ _ _ (hd 2) c3
      · rw [if_neg c3] at h ⊢
        by_cases c4 : (delQ T).2.1 < T.length
        · rw [if_pos c4]; exact ⟨_, getP_mem c4, .inl rfl⟩
        · rw [if_neg c4] at h; exact absurd rfl h
    · rw [if_neg c2] at h ⊢
      by_cases c3 : (litQ T).2.2.2 ≠ 0
      · rw [if_pos c3]; exact nrow_edge hle _ _ _ (hd 1) c3
      · rw [if_neg c3] at h ⊢
        by_cases c4 : (hinQ T).2.2.2 ≠ 0
        · rw [if_pos c4]; exact nrow_edge hle _ _ _ (hd _) c4
        · rw [if_neg c4] at h ⊢
          by_cases c5 : (idQ T).1 = 0
          · rw [if_pos c5]; exact ⟨_, h00, .inl rfl⟩
          · rw [if_neg c5] at h ⊢
            by_cases c6 : (hinQ T).2.1 < T.length
            · rw [if_pos c6]; exact ⟨_, getP_mem c6, .inl rfl⟩
            · rw [if_neg c6] at h; exact absurd rfl h
theorem stsGo_edge {z : Int} : ∀ (L : List (List Tok3)) (xs : List Stp), ((stsGo z L xs).2.2 = 0 → (stsGo z L xs).2.1 = z) ∧ ((stsGo z L xs).2.2 ≠ 0 → (stsGo z L xs).1 = [] ∧ ∃ T ∈ L, ∃ t ∈ T, (stsGo z L xs).2.1 = t.2.1 ∨ (stsGo z L xs).2.1 = t.2.1 + ((t.2.2.length : Nat) : Int))
  | [], xs => ⟨fun _ => rfl, fun h => absurd rfl h⟩
  | T :: L, xs => by
    by_cases h1 : T.length = 0
    · rw [stsGo_nil h1]
      have ih := stsGo_edge (z := z) L xs
      exact ⟨ih.1, fun h => ⟨(ih.2 h).1, by obtain ⟨T2, a, b⟩ := (ih.2 h).2; exact ⟨T2, List.mem_cons_of_mem _ a, b⟩⟩⟩
    · by_cases h2 : (stepP T).2.2 = 0
      · rw [stsGo_ok h1 h2]
        have ih := stsGo_edge (z := z) L (xs ++ [(stepP T).1])
        exact ⟨ih.1, fun h => ⟨(ih.2 h).1, by obtain ⟨T2, a, b⟩ := (ih.2 h).2; exact ⟨T2, List.mem_cons_of_mem _ a, b⟩⟩⟩
      · rw [stsGo_bad h1 h2]
        exact ⟨fun h => absurd h h2, fun _ => ⟨rfl, T, by simp, stepP_edge h1 h2⟩⟩
theorem stsGo_good {z : Int} : ∀ (L : List (List Tok3)) (xs : List Stp), (∀ s ∈ xs, stOk s) → (∀ s ∈ (stsGo z L xs).1, stOk s) ∧ (stsGo z L xs).1.length ≤ xs.length + L.length ∧ ((stsGo z L xs).1.map fun s => s.L.length + s.H.length + 3).sum ≤ (xs.map fun s => s.L.length + s.H.length + 3).sum + (L.map List.length).sum
  | [], xs, h => ⟨h, Nat.le_refl _, Nat.le_refl _⟩
  | T :: L, xs, h => by
    by_cases h1 : T.length = 0
    · rw [stsGo_nil h1]
      obtain ⟨a, b, c⟩ := stsGo_good (z := z) L xs h
      exact ⟨a, by rw [List.length_cons]; omega, by rw [List.map_cons, List.sum_cons]; omega⟩
    · by_cases h2 : (stepP T).2.2 = 0
      · rw [stsGo_ok h1 h2]
        obtain ⟨o1, o2⟩ := stepP_ok h2
        obtain ⟨a, b, c⟩ := stsGo_good (z := z) L (xs ++ [(stepP T).1]) (fun s hs => by
          rcases List.mem_append.1 hs with hs | hs
          · exact h s hs
          · rw [List.mem_singleton] at hs; rw [hs]; exact o1)
        rw [List.length_append, List.length_singleton] at b
        rw [List.map_append, List.sum_append, List.map_singleton, List.sum_singleton] at c
        exact ⟨a, by rw [List.length_cons]; omega, by rw [List.map_cons, List.sum_cons]; omega⟩
      · rw [stsGo_bad h1 h2]
        exact ⟨by simp, by simp, by simp⟩
theorem stsGo_app {z z' : Int} {X : List (List Tok3)} : ∀ (L : List (List Tok3)) (xs : List Stp), (stsGo z L xs).2.2 ≠ 0 → stsGo z' (L ++ X) xs = stsGo z L xs
  | [], xs, h => absurd rfl h
  | T :: L, xs, h => by
    rw [List.cons_append]
    by_cases h1 : T.length = 0
    · rw [stsGo_nil h1] at h ⊢; rw [stsGo_nil h1]; exact stsGo_app L xs h
    · by_cases h2 : (stepP T).2.2 = 0
      · rw [stsGo_ok h1 h2] at h ⊢; rw [stsGo_ok h1 h2]; exact stsGo_app L _ h
      · rw [stsGo_bad h1 h2, stsGo_bad h1 h2]
theorem lnLen_app : ∀ (s b : List UInt8), lnLen (s ++ 10 :: b) = lnLen s
  | [], b => by unfold lnLen; rfl
  | c :: s, b => by
    have ih := lnLen_app s b
    unfold lnLen at ih ⊢
    rw [List.cons_append, List.takeWhile_cons, List.takeWhile_cons]
    split
    · rw [List.length_cons, List.length_cons, ih]
    · rfl
theorem lns_app : ∀ (n : Nat) (s b : List UInt8) (ln k : Nat), s.length ≤ n → ∃ X, lns ln k (s ++ 10 :: b) = lns ln k s ++ X
  | n, [], b, ln, k, _ => ⟨lns ln k (10 :: b), by rw [lns_nil]; rfl⟩
  | 0, c :: s, b, ln, k, h => by simp at h
  | n + 1, c :: s, b, ln, k, h => by
    have hle := lnLen_le (c :: s)
    have e1 := lnLen_app (c :: s) b
    rw [List.cons_append] at e1 ⊢
    rw [lns, lns, e1]
    have e2 : (c :: (s ++ 10 :: b)) = (c :: s) ++ 10 :: b := rfl
    rw [e2, List.take_append_of_le_length hle]
    rcases Nat.lt_or_ge (lnLen (c :: s)) (c :: s).length with hlt | hge
    · rw [List.drop_append_of_le_length (by omega)]
      obtain ⟨X, hX⟩ := lns_app n ((c :: s).drop (lnLen (c :: s) + 1)) b (ln + 1) (k + (lnLen (c :: s) + 1)) (by rw [List.length_drop]; rw [List.length_cons] at h ⊢; omega)
      exact ⟨X, by rw [hX, List.cons_append]⟩
    · have e3 : (c :: s).drop (lnLen (c :: s) + 1) = [] := List.drop_of_length_le (by omega)
      rw [e3, lns_nil]
      exact ⟨_, rfl⟩
theorem prp_app {l b : List UInt8} (h : (prp l).2.2 ≠ 0) : prp (l ++ 10 :: b) = prp l := by
  obtain ⟨X, hX⟩ := lns_app l.length l b 1 0 (Nat.le_refl _)
  unfold prp at h ⊢
  have e : lnsT (l ++ 10 :: b) = lnsT l ++ X.map rowT := by unfold lnsT; rw [hX, List.map_append]
  rw [e]; exact stsGo_app _ _ h
theorem lnsT_all {l : List UInt8} {T : List Tok3} (hT : T ∈ lnsT l) {t : Tok3} (ht : t ∈ T) : t ∈ allT (lns 1 0 l) := by
  unfold lnsT at hT
  obtain ⟨r, hr, rfl⟩ := List.mem_map.1 hT
  unfold allT
  exact List.mem_flatMap.2 ⟨r, hr, ht⟩
theorem chain_in {n : Nat} : ∀ {T : List Tok3} {e : Nat}, ChainT n e T → ∀ t ∈ T, 0 ≤ t.2.1 ∧ t.2.1 + ((t.2.2.length : Nat) : Int) ≤ n
  | [], e, _, t, h => by cases h
  | x :: T, e, ⟨p, h1, h2, h3, h4, h5⟩, t, ht => by
    rcases List.mem_cons.1 ht with rfl | ht
    · rw [h1]; omega
    · exact chain_in h5 t ht
theorem chain_sum {n : Nat} : ∀ {T : List Tok3} {e : Nat}, ChainT n e T → e ≤ n → e + T.length ≤ n
  | [], e, _, h => by simpa using h
  | x :: T, e, ⟨p, h1, h2, h3, h4, h5⟩, h => by
    have := chain_sum h5 h4
    rw [List.length_cons]; omega
theorem lnsT_toks (l : List UInt8) : ((lnsT l).map List.length).sum ≤ l.length := by
  have hc := chain_sum (chain_rows _ _ _ (lns_rows l)) (Nat.zero_le _)
  have e : ∀ rs : List (Nat × Nat × List (Nat × List UInt8)), ((rs.map rowT).map List.length).sum = (allT rs).length := fun rs => by
    induction rs with
    | nil => rfl
    | cons r rs ih =>
      rw [List.map_cons, List.map_cons, List.sum_cons, ih]
      have e2 : allT (r :: rs) = rowT r ++ allT rs := rfl
      rw [e2, List.length_append]
  have := e (lns 1 0 l)
  unfold lnsT; omega
theorem prp_edge (l : List UInt8) : ((prp l).2.2 = 0 → (prp l).2.1 = l.length) ∧ ((prp l).2.2 ≠ 0 → (prp l).1 = [] ∧ (0 ≤ (prp l).2.1 ∧ (prp l).2.1 ≤ l.length) ∧ (lnsT l).length ≠ 0) := by
  have h := stsGo_edge (z := (l.length : Int)) (lnsT l) []
  refine ⟨h.1, fun h2 => ?_⟩
  obtain ⟨h3, T, hT, t, ht, h4⟩ := h.2 h2
  have hc := chain_in (chain_rows _ _ _ (lns_rows l)) t (lnsT_all hT ht)
  refine ⟨h3, ?_, fun h5 => ?_⟩
  · have e : (prp l).2.1 = (stsGo (l.length : Int) (lnsT l) []).2.1 := rfl
    rw [e]; omega
  · rw [List.length_eq_zero_iff] at h5; rw [h5] at hT; cases hT
theorem prp_good (l : List UInt8) : (∀ s ∈ (prp l).1, stOk s) ∧ (prp l).1.length ≤ (lnsT l).length ∧ ((prp l).1.map fun s => s.L.length + s.H.length + 3).sum ≤ l.length := by
  obtain ⟨a, b, c⟩ := stsGo_good (z := (l.length : Int)) (lnsT l) [] (by simp)
  have := lnsT_toks l
  simp only [List.map_nil, List.sum_nil, List.length_nil] at b c
  exact ⟨a, by unfold prp; omega, by unfold prp; omega⟩
def wZ : List UInt8 := [48]
def txT (T : List Tok3) : List (List UInt8) := T.map (·.2.2)
def spW (w : List UInt8) : List UInt8 := 32 :: w
def stW (s : Stp) : List (List UInt8) := (if s.k = 2 then [wD] else s.L.map itoa ++ [wZ]) ++ (s.H.map itoa ++ [wZ])
def stB (s : Stp) : List UInt8 := itoa s.i ++ (stW s).flatMap spW ++ [10]
def pfB (xs : List Stp) : List UInt8 := xs.flatMap stB
theorem wZ_word : WordB wZ := ⟨by decide, by decide⟩
theorem wD_word : WordB wD := ⟨by decide, by decide⟩
theorem wZ_itoa : itoa 0 = wZ := by unfold itoa; rw [if_neg (by omega), show (0 : Int).toNat = 0 from rfl, decDigits_one (by omega)]; rfl
theorem stW_word (s : Stp) : ∀ w ∈ stW s, WordB w := fun w hw => by
  unfold stW at hw
  rcases List.mem_append.1 hw with hw | hw
  · split at hw
    · rw [List.mem_singleton] at hw; subst hw; exact wD_word
    · rcases List.mem_append.1 hw with hw | hw
      · obtain ⟨x, _, rfl⟩ := List.mem_map.1 hw; exact itoa_word x
      · rw [List.mem_singleton] at hw; subst hw; exact wZ_word
  · rcases List.mem_append.1 hw with hw | hw
    · obtain ⟨x, _, rfl⟩ := List.mem_map.1 hw; exact itoa_word x
    · rw [List.mem_singleton] at hw; subst hw; exact wZ_word
theorem tk_words : ∀ (ws : List (List UInt8)) (k : Nat) {w : List UInt8}, WordB w → (∀ x ∈ ws, WordB x) → (tk k (w ++ ws.flatMap spW)).map (·.2) = w :: ws
  | [], k, w, hw, _ => by rw [List.flatMap_nil, List.append_nil, tk_wend k hw.ne fun b hb => (hw.ok b hb).1]; rfl
  | x :: ws, k, w, hw, h => by
    have e : w ++ (x :: ws).flatMap spW = w ++ 32 :: (x ++ ws.flatMap spW) := by rw [List.flatMap_cons]; unfold spW; simp
    obtain ⟨k2, h2⟩ := tk_wsp k hw.ne (fun b hb => (hw.ok b hb).1) (x ++ ws.flatMap spW)
    rw [e, h2, List.map_cons, tk_words ws k2 (h x (by simp)) fun y hy => h y (by simp [hy])]
theorem lns_words {w : List UInt8} (ws : List (List UInt8)) (ln k : Nat) (rest : List UInt8) (hw : WordB w) (h : ∀ x ∈ ws, WordB x) : ∃ T k2, (lns ln k (w ++ ws.flatMap spW ++ [10] ++ rest)).map rowT = T :: (lns (ln + 1) k2 rest).map rowT ∧ txT T = w :: ws := by
  have e : w ++ ws.flatMap spW ++ [10] ++ rest = (w ++ ws.flatMap spW) ++ 10 :: rest := by simp
  have hm : ∀ b ∈ w ++ ws.flatMap spW, b ≠ 10 := fun b hb => by
    rcases List.mem_append.1 hb with hb | hb
    · exact (hw.ok b hb).2.1
    · obtain ⟨x, hx0, hx⟩ := List.mem_flatMap.1 hb
      unfold spW at hx
      rcases List.mem_cons.1 hx with rfl | hx
      · decide
      · exact ((h x hx0).ok b hx).2.1
  refine ⟨rowT (ln, k, lineTk (w ++ ws.flatMap spW)), k + ((w ++ ws.flatMap spW).length + 1), ?_, ?_⟩
  · rw [e, lns_line ln k hm rest, List.map_cons]
  · have hne := hw.ne
    have hok := hw.ok
    have hlt : lineTk (w ++ ws.flatMap spW) = tk 0 (w ++ ws.flatMap spW) := by
      cases w with
      | nil => exact absurd rfl hne
      | cons c r => exact line_tk ⟨c, r ++ ws.flatMap spW, rfl, (hok c (by simp)).2.2⟩
    have e3 : txT (rowT (ln, k, lineTk (w ++ ws.flatMap spW))) = (lineTk (w ++ ws.flatMap spW)).map (·.2) := by unfold txT rowT; rw [List.map_map]; rfl
    rw [e3, hlt, tk_words ws 0 hw h]
theorem nrow_itoa {lo hi : Int} {once : Bool} {le : Int} (h1 : -1000000000 ≤ lo ∧ lo ≤ 0) (h2 : 0 ≤ hi ∧ hi ≤ 1000000000) : ∀ (T : List Tok3) (ns : List Int) (rest : List (List UInt8)) (k : Nat) (acc : List Int), txT T = ns.map itoa ++ wZ :: rest → (∀ x ∈ ns, (lo ≤ x ∧ x ≤ hi) ∧ x ≠ 0) → (acc ++ ns).length ≤ 1000 → (once = true → (acc ++ ns).Nodup) → nrow lo hi once le T k acc = (acc ++ ns, k + ns.length + 1, 0, 0)
  | [], ns, rest, k, acc, h, _, _, _ => by unfold txT at h; simp at h
  | t :: T, [], rest, k, acc, h, _, _, _ => by
    unfold txT at h
    rw [List.map_cons, List.map_nil, List.nil_append] at h
    injection h with h3 h4
    have hr : numR t.2.2 lo hi = (0, 0) := by rw [h3, ← wZ_itoa]; exact numR_itoa ⟨h1.2, h2.1⟩ ⟨by omega, by omega⟩
    rw [nrow, hr, if_neg (by simp), if_pos rfl, List.append_nil]; rfl
  | t :: T, x :: ns, rest, k, acc, h, hx, hl, hn => by
    unfold txT at h
    rw [List.map_cons, List.map_cons, List.cons_append] at h
    injection h with h3 h4
    have hx0 := hx x (by simp)
    have hr : numR t.2.2 lo hi = (x, 0) := by rw [h3]; exact numR_itoa hx0.1 ⟨by omega, by omega⟩
    have e : acc ++ x :: ns = acc ++ [x] ++ ns := by simp
    rw [e] at hl hn ⊢
    have hl2 := hl
    rw [List.length_append, List.length_append, List.length_singleton] at hl2
    rw [nrow, hr, if_neg (by simp), if_neg hx0.2, if_neg (by omega), if_neg (fun ⟨ho, hm⟩ => by
      have h5 := (List.nodup_append.1 (hn ho)).1
      exact (List.nodup_append.1 h5).2.2 x hm x (by simp) rfl), nrow_itoa h1 h2 T ns rest (k + 1) (acc ++ [x]) h4 (fun y hy => hx y (by simp [hy])) hl hn]
    rw [List.length_cons, show k + 1 + ns.length + 1 = k + (ns.length + 1) + 1 by omega]
theorem itoa_neD (x : Int) : itoa x ≠ wD := fun h => by have := (itoa_num x).1; rw [h] at this; exact absurd this (by decide)
theorem txT_getD {T : List Tok3} {ws : List (List UInt8)} (h : txT T = ws) (k : Nat) : (T.getD k tok0).2.2 = ws.getD k [] := by
  subst h
  unfold txT
  rw [List.getD_eq_getElem?_getD, List.getD_eq_getElem?_getD, List.getElem?_map]
  cases T[k]? <;> rfl
theorem txT_drop {T : List Tok3} (k : Nat) : txT (T.drop k) = (txT T).drop k := by unfold txT; rw [List.map_drop]
theorem stepP_back {T : List Tok3} {s : Stp} (h : stOk s) (ht : txT T = itoa s.i :: stW s) : T.length ≠ 0 ∧ stepP T = (s, 0, 0) := by
  have hlen : T.length = (stW s).length + 1 := by have := congrArg List.length ht; unfold txT at this; rw [List.length_map, List.length_cons] at this; exact this
  refine ⟨by omega, ?_⟩
  have g0 : (T.getD 0 tok0).2.2 = itoa s.i := txT_getD ht 0
  have g1 : (T.getD 1 tok0).2.2 = (stW s).getD 0 [] := txT_getD ht 1
  obtain ⟨K, i, L, H⟩ := s
  have hb : 0 ≤ i ∧ i ≤ 10000000 := by rcases h with ⟨_, h, _⟩ | ⟨_, h, _⟩ <;> dsimp only at h <;> omega
  have hid : idQ T = (i, 0) := by unfold idQ; rw [g0]; exact numR_itoa hb ⟨by dsimp only; omega, by dsimp only; omega⟩
  unfold stepP
  rw [hid, if_neg (by simp)]
  rcases h with ⟨hk, hi, hL, hH⟩ | ⟨hk, hi, hL, hH⟩
  · dsimp only at hk hi hL hH
    subst hk
    obtain ⟨a1, a2, a3⟩ := cCheck_in hL
    have hW : stW ⟨1, i, L, H⟩ = L.map itoa ++ wZ :: (H.map itoa ++ [wZ]) := by unfold stW; rw [if_neg (show ¬((1 : Int) = 2) by decide)]; simp
    rw [hW] at ht hlen g1
    have hn2 : ¬ (1 < T.length ∧ (T.getD 1 tok0).2.2 = wD) := fun ⟨_, h⟩ => by
      rw [g1] at h
      cases L with
      | nil => exact absurd (show wZ = wD from h) (by decide)
      | cons x L => exact itoa_neD x h
    have hl : litQ T = (L, 1 + L.length + 1, 0, 0) := by
      have := nrow_itoa (lo := -100000) (hi := 100000) (once := true) (le := lastEnd T) ⟨by decide, by decide⟩ ⟨by decide, by decide⟩ (T.drop 1) L (H.map itoa ++ [wZ]) 1 [] (by rw [txT_drop, ht]; rfl) a2 (by simpa using a1) (fun _ => by simpa using a3)
      rw [List.nil_append] at this; exact this
    have hh : hinQ T = (H, 1 + L.length + 1 + H.length + 1, 0, 0) := by
      unfold hinQ
      rw [hl]
      have := nrow_itoa (lo := -10000000) (hi := 10000000) (once := false) (le := lastEnd T) ⟨by decide, by decide⟩ ⟨by decide, by decide⟩ (T.drop (1 + L.length + 1)) H [] (1 + L.length + 1) [] (by
        rw [txT_drop, ht, show 1 + L.length + 1 = (L.map itoa).length + 1 + 1 by rw [List.length_map]; omega, List.drop_succ_cons, List.drop_append]
        simp) hH.2 (by simpa using hH.1) (fun h => by cases h)
      rw [List.nil_append] at this; exact this
    rw [if_neg hn2, hl, hh, if_neg (by simp), if_neg (by simp), if_neg (by dsimp only; omega), if_neg]
    rw [hlen]; simp; omega
  · dsimp only at hk hi hL hH
    subst hk hL
    have hW : stW ⟨2, i, [], H⟩ = wD :: (H.map itoa ++ [wZ]) := by unfold stW; rw [if_pos rfl]; rfl
    rw [hW] at ht hlen g1
    have hd : delQ T = (H, 2 + H.length + 1, 0, 0) := by
      have := nrow_itoa (lo := 0) (hi := 10000000) (once := false) (le := lastEnd T) ⟨by decide, by decide⟩ ⟨by decide, by decide⟩ (T.drop 2) H [] 2 [] (by rw [txT_drop, ht]; rfl) (fun x hx => by have := hH.2 x hx; exact ⟨by omega, this.2⟩) (by simpa using hH.1) (fun h => by cases h)
      rw [List.nil_append] at this; exact this
    rw [if_pos ⟨by rw [hlen]; simp, g1⟩, hd, if_neg (by simp), if_neg]
    rw [hlen]; simp; omega
theorem stsGo_back {z : Int} : ∀ (xs acc : List Stp) (ln k : Nat), (∀ s ∈ xs, stOk s) → stsGo z ((lns ln k (pfB xs)).map rowT) acc = (acc ++ xs, z, 0)
  | [], acc, ln, k, _ => by unfold pfB; rw [List.flatMap_nil, lns_nil, List.append_nil]; rfl
  | s :: xs, acc, ln, k, h => by
    obtain ⟨T, k2, h1, h2⟩ := lns_words (stW s) ln k (pfB xs) (itoa_word s.i) (stW_word s)
    have e : pfB (s :: xs) = itoa s.i ++ (stW s).flatMap spW ++ [10] ++ pfB xs := by unfold pfB; rw [List.flatMap_cons]; rfl
    obtain ⟨h3, h4⟩ := stepP_back (h s (by simp)) h2
    rw [e, h1, stsGo_ok h3 (by rw [h4]), h4, stsGo_back xs _ _ _ fun s hs => h s (by simp [hs])]
    simp
theorem prp_back {xs : List Stp} (h : ∀ s ∈ xs, stOk s) : prp (pfB xs) = (xs, ((pfB xs).length : Int), 0) := by
  unfold prp lnsT; rw [stsGo_back xs [] 1 0 h, List.nil_append]
theorem lnsT_pfB : ∀ (xs : List Stp) (ln k : Nat), ((lns ln k (pfB xs)).map rowT).length = xs.length
  | [], ln, k => by unfold pfB; rw [List.flatMap_nil, lns_nil]; rfl
  | s :: xs, ln, k => by
    obtain ⟨T, k2, h1, h2⟩ := lns_words (stW s) ln k (pfB xs) (itoa_word s.i) (stW_word s)
    have e : pfB (s :: xs) = itoa s.i ++ (stW s).flatMap spW ++ [10] ++ pfB xs := by unfold pfB; rw [List.flatMap_cons]; rfl
    rw [e, h1, List.length_cons, List.length_cons, lnsT_pfB xs]
end Go.Proofs.YtghdacijcnmhlaaDoor
namespace Go.Proofs.YtghdacijcnmhlaaDoor
open Go.RowKit
set_option linter.unusedVariables false
end Go.Proofs.YtghdacijcnmhlaaDoor
namespace Go.Proofs.YtghdacijcnmhlaaDoor
open Go.RowKit
set_option linter.unusedVariables false
theorem frz_ints {HD : AHeap} {o : Nat} {t : TypeId} {xs : List Int} {n : Nat} (h : HD[o]? = some (some ⟨t, xs.map lint⟩)) (hn : n = xs.length) : FrzV HD (.osl o 0 n 1) (.iv (iInts xs)) := by
  subst hn
  exact .iv _ _ (SnapC.lits (fun j => .int .i64 (xs.getD j 0)) h fun j hj => by rw [Nat.zero_add]; exact lint_at hj)
end Go.Proofs.YtghdacijcnmhlaaDoor
