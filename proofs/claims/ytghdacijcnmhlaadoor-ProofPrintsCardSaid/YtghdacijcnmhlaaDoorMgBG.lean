import Derived.Test.YtghdacijcnmhlaaDoorMgBC
import Derived.Test.YtghdacijcnmhlaaDoorMgBF
import Derived.Lib.ItoaLen
import Derived.Test.YtghdacijcnmhlaaDoorMgAO
import Derived.Test.YtghdacijcnmhlaaDoorMgBE
import Derived.Test.YtghdacijcnmhlaaDoorMgBD
import Derived.Test.YtghdacijcnmhlaaDoorMgAY
namespace Go.Proofs.YtghdacijcnmhlaaDoor
open Go.RowKit Go.Lib
structure Stp where
  k : Int
  i : Int
  L : List Int
  H : List Int
def st0 : Stp := ⟨0, 0, [], []⟩
def wD : List UInt8 := [100]
def nrow (lo hi : Int) (once : Bool) (le : Int) : List Tok3 → Nat → List Int → List Int × Nat × Int × Int
  | [], k, _ => ([], k, le, 4)
  | t :: T, k, acc =>
    if (numR t.2.2 lo hi).2 ≠ 0 then ([], k, t.2.1, (numR t.2.2 lo hi).2) else
    if (numR t.2.2 lo hi).1 = 0 then (acc, k + 1, 0, 0) else
    if acc.length = 1000 then ([], k, t.2.1, 3) else
    if once = true ∧ (numR t.2.2 lo hi).1 ∈ acc then ([], k, t.2.1, 21) else
    nrow lo hi once le T (k + 1) (acc ++ [(numR t.2.2 lo hi).1])
def idQ (W : List Tok3) : Int × Int := numR (W.getD 0 tok0).2.2 0 10000000
def delQ (W : List Tok3) : List Int × Nat × Int × Int := nrow 0 10000000 false (lastEnd W) (W.drop 2) 2 []
def litQ (W : List Tok3) : List Int × Nat × Int × Int := nrow (-100000) 100000 true (lastEnd W) (W.drop 1) 1 []
def hinQ (W : List Tok3) : List Int × Nat × Int × Int := nrow (-10000000) 10000000 false (lastEnd W) (W.drop (litQ W).2.1) (litQ W).2.1 []
def stepP (W : List Tok3) : Stp × Int × Int :=
  if (idQ W).2 ≠ 0 then (st0, (W.getD 0 tok0).2.1, (idQ W).2) else
  if 1 < W.length ∧ (W.getD 1 tok0).2.2 = wD then
    if (delQ W).2.2.2 ≠ 0 then (st0, (delQ W).2.2.1, (delQ W).2.2.2) else
    if (delQ W).2.1 < W.length then (st0, (W.getD (delQ W).2.1 tok0).2.1, 6) else (⟨2, (idQ W).1, [], (delQ W).1⟩, 0, 0)
  else
    if (litQ W).2.2.2 ≠ 0 then (st0, (litQ W).2.2.1, (litQ W).2.2.2) else
    if (hinQ W).2.2.2 ≠ 0 then (st0, (hinQ W).2.2.1, (hinQ W).2.2.2) else
    if (idQ W).1 = 0 then (st0, (W.getD 0 tok0).2.1, 7) else
    if (hinQ W).2.1 < W.length then (st0, (W.getD (hinQ W).2.1 tok0).2.1, 6) else (⟨1, (idQ W).1, (litQ W).1, (hinQ W).1⟩, 0, 0)
def stsGo (z : Int) : List (List Tok3) → List Stp → List Stp × Int × Int
  | [], xs => (xs, z, 0)
  | T :: L, xs => if T.length = 0 then stsGo z L xs else if (stepP T).2.2 ≠ 0 then ([], (stepP T).2.1, (stepP T).2.2) else stsGo z L (xs ++ [(stepP T).1])
def prp (l : List UInt8) : List Stp × Int × Int := stsGo l.length (lnsT l) []
theorem numR_in {l : List UInt8} {lo hi : Int} (h : (numR l lo hi).2 = 0) : lo ≤ (numR l lo hi).1 ∧ (numR l lo hi).1 ≤ hi := by
  unfold numR at h ⊢
  split at h
  · cases h
  · rename_i h1
    rw [if_neg h1]
    split at h
    · rename_i h2; rw [if_pos h2]; exact ⟨h2.2.2.1, h2.2.2.2⟩
    · cases h
theorem nrow_ok {lo hi : Int} {once : Bool} {le : Int} : ∀ (T : List Tok3) (k : Nat) (acc : List Int), (nrow lo hi once le T k acc).2.2.2 = 0 → acc.length ≤ 1000 → (∀ x ∈ acc, (lo ≤ x ∧ x ≤ hi) ∧ x ≠ 0) → (once = true → acc.Nodup) →
    (∀ x ∈ (nrow lo hi once le T k acc).1, (lo ≤ x ∧ x ≤ hi) ∧ x ≠ 0) ∧ (nrow lo hi once le T k acc).1.length ≤ 1000 ∧ (once = true → (nrow lo hi once le T k acc).1.Nodup) ∧ k < (nrow lo hi once le T k acc).2.1 ∧ (nrow lo hi once le T k acc).2.1 ≤ k + T.length ∧ (nrow lo hi once le T k acc).1.length ≤ acc.length + T.length
  | [], k, acc, h, _, _, _ => by cases h
  | t :: T, k, acc, h, h1, h2, h3 => by
    rw [nrow] at h ⊢
    by_cases c1 : (numR t.2.2 lo hi).2 ≠ 0
    · rw [if_pos c1] at h; exact absurd h c1
    · rw [if_neg c1] at h ⊢
      by_cases c2 : (numR t.2.2 lo hi).1 = 0
      · rw [if_pos c2]
        exact ⟨h2, h1, h3, Nat.lt_succ_self k, by show k + 1 ≤ k + (t :: T).length; rw [List.length_cons]; omega, Nat.le_add_right _ _⟩
      · rw [if_neg c2] at h ⊢
        by_cases c3 : acc.length = 1000
        · rw [if_pos c3] at h; cases h
        · rw [if_neg c3] at h ⊢
          by_cases c4 : once = true ∧ (numR t.2.2 lo hi).1 ∈ acc
          · rw [if_pos c4] at h; cases h
          · rw [if_neg c4] at h ⊢
            have hb := numR_in (Classical.not_not.1 c1)
            obtain ⟨a1, a2, a3, a4, a5, a6⟩ := nrow_ok T (k + 1) _ h (by rw [List.length_append, List.length_singleton]; omega) (fun x hx => by
              rcases List.mem_append.1 hx with hx | hx
              · exact h2 x hx
              · rw [List.mem_singleton] at hx; subst hx; exact ⟨hb, c2⟩) (fun ho => List.nodup_append.2 ⟨h3 ho, by simp, fun a ha b hb2 e => by
                rw [List.mem_singleton] at hb2; subst hb2 e; exact c4 ⟨ho, ha⟩⟩)
            rw [List.length_append, List.length_singleton] at a6
            exact ⟨a1, a2, a3, by omega, by rw [List.length_cons]; omega, by rw [List.length_cons]; omega⟩
end Go.Proofs.YtghdacijcnmhlaaDoor
namespace Go.Proofs.YtghdacijcnmhlaaDoor
open Go.RowKit Go.Lib
def hOk (lo : Int) (H : List Int) : Prop := H.length ≤ 1000 ∧ ∀ x ∈ H, (lo ≤ x ∧ x ≤ 10000000) ∧ x ≠ 0
instance (lo : Int) (H : List Int) : Decidable (hOk lo H) := inferInstanceAs (Decidable (_ ∧ _))
def stOk (s : Stp) : Prop := (s.k = 1 ∧ (1 ≤ s.i ∧ s.i ≤ 10000000) ∧ cCheck s.L 100000 = 0 ∧ hOk (-10000000) s.H) ∨ (s.k = 2 ∧ (0 ≤ s.i ∧ s.i ≤ 10000000) ∧ s.L = [] ∧ hOk 1 s.H)
instance (s : Stp) : Decidable (stOk s) := inferInstanceAs (Decidable (_ ∨ _))
theorem cCheck_in {L : List Int} (h : cCheck L 100000 = 0) : L.length ≤ 1000 ∧ (∀ x ∈ L, (-100000 ≤ x ∧ x ≤ 100000) ∧ x ≠ 0) ∧ L.Nodup := by
  unfold cCheck at h
  split at h
  · cases h
  · split at h
    · cases h
    · split at h
      · cases h
      · split at h
        · rename_i h1 h2 h3 h4
          rw [Bool.not_eq_false, List.all_eq_true] at h3
          refine ⟨by omega, fun x hx => ?_, h4⟩
          have h5 : lcheck x 100000 = 0 := by simpa using h3 x hx
          have := lvar_range ((lcheck_max x).1 h5)
          exact ⟨⟨this.1, this.2.1⟩, this.2.2⟩
        · cases h
theorem getP_mem {T : List Tok3} {k : Nat} (h : k < T.length) : T.getD k tok0 ∈ T := by
  rw [List.getD_eq_getElem?_getD, List.getElem?_eq_getElem h]; exact List.getElem_mem h
theorem lnsT_all {l : List UInt8} {T : List Tok3} (hT : T ∈ lnsT l) {t : Tok3} (ht : t ∈ T) : t ∈ allT (lns 1 0 l) := by
  unfold lnsT at hT
  obtain ⟨r, hr, rfl⟩ := List.mem_map.1 hT
  unfold allT
  exact List.mem_flatMap.2 ⟨r, hr, ht⟩
theorem chain_in {n : Nat} : ∀ {T : List Tok3} {e : Nat}, ChainT n e T → ∀ t ∈ T, 0 ≤ t.2.1 ∧ t.2.1 + ((t.2.2.length : Nat) : Int) ≤ n
  | [], e, _, t, h => by cases h
  | x :: T, e, ⟨p, h1, h2, h3, h4, h5⟩, t, ht => by
    rcases List.mem_cons.1 ht with rfl | ht
    · rw [h1]; omega
    · exact chain_in h5 t ht
theorem chain_sum {n : Nat} : ∀ {T : List Tok3} {e : Nat}, ChainT n e T → e ≤ n → e + T.length ≤ n
  | [], e, _, h => by simpa using h
  | x :: T, e, ⟨p, h1, h2, h3, h4, h5⟩, h => by
    have := chain_sum h5 h4
    rw [List.length_cons]; omega
theorem lnsT_toks (l : List UInt8) : ((lnsT l).map List.length).sum ≤ l.length := by
  have hc := chain_sum (chain_rows _ _ _ (lns_rows l)) (Nat.zero_le _)
  have e : ∀ rs : List (Nat × Nat × List (Nat × List UInt8)), ((rs.map rowT).map List.length).sum = (allT rs).length := fun rs => by
    induction rs with
    | nil => rfl
    | cons r rs ih =>
      rw [List.map_cons, List.map_cons, List.sum_cons, ih]
      have e2 : allT (r :: rs) = rowT r ++ allT rs := rfl
      rw [e2, List.length_append]
  have := e (lns 1 0 l)
  unfold lnsT; omega
def wZ : List UInt8 := [48]
def txT (T : List Tok3) : List (List UInt8) := T.map (·.2.2)
def spW (w : List UInt8) : List UInt8 := 32 :: w
def stW (s : Stp) : List (List UInt8) := (if s.k = 2 then [wD] else s.L.map itoa ++ [wZ]) ++ (s.H.map itoa ++ [wZ])
def stB (s : Stp) : List UInt8 := itoa s.i ++ (stW s).flatMap spW ++ [10]
def pfB (xs : List Stp) : List UInt8 := xs.flatMap stB
end Go.Proofs.YtghdacijcnmhlaaDoor
namespace Go.Proofs.YtghdacijcnmhlaaDoor
open Go.RowKit
set_option linter.unusedVariables false
end Go.Proofs.YtghdacijcnmhlaaDoor
namespace Go.Proofs.YtghdacijcnmhlaaDoor
open Go.RowKit
set_option linter.unusedVariables false
theorem frz_ints {HD : AHeap} {o : Nat} {t : TypeId} {xs : List Int} {n : Nat} (h : HD[o]? = some (some ⟨t, xs.map lint⟩)) (hn : n = xs.length) : FrzV HD (.osl o 0 n 1) (.iv (iInts xs)) := by
  subst hn
  exact .iv _ _ (SnapC.lits (fun j => .int .i64 (xs.getD j 0)) h fun j hj => by rw [Nat.zero_add]; exact lint_at hj)
end Go.Proofs.YtghdacijcnmhlaaDoor
