/- A list of pairs that a call made, read. -/
import Derived.Test.YthfcbjfeepindaaTimP
namespace Go.Proofs.Ythfcbjfeepindaa
open Go.RowKit
set_option linter.unusedVariables false

theorem prC_at (ps : List (Int × Int)) (i : Nat) (h : i < ps.length) : (ps.flatMap prC)[i * 2]? = some (.int .i64 (prAt ps i).1) ∧ (ps.flatMap prC)[i * 2 + 1]? = some (.int .i64 (prAt ps i).2) := by
  induction ps generalizing i with
  | nil => simp at h
  | cons p t ih =>
    cases i with
    | zero => simp [prC, prAt]
    | succ i =>
      have h1 := ih i (by simpa using h)
      have e : prAt (p :: t) (i + 1) = prAt t i := by simp [prAt]
      rw [e, List.flatMap_cons]
      simp only [prC, List.cons_append, List.nil_append, show (i + 1) * 2 = i * 2 + 1 + 1 by omega, show i * 2 + 1 + 1 + 1 = (i * 2 + 1) + 1 + 1 by omega, List.getElem?_cons_succ]
      exact h1
theorem OwnPairs.row {w : World} {B : Nat} {v : Value} {ps : List (Int × Int)} (h : OwnPairs w B v ps) : ∃ a cap, v = .slice a ps.length cap ∧ ps.length ≤ cap ∧ cap ≤ maxLen ∧ PairRow w a ps.length ps := by
  obtain ⟨a, cap, hv, h1, h2, hc⟩ := own_read h
  refine ⟨a, cap, hv, h1, h2, rfl, by omega, fun hp => ?_⟩
  obtain ⟨b, off, ha, _⟩ := hc _ _ (prC_at ps 0 hp).1
  refine ⟨b, off, ha, fun i hi => ?_⟩
  obtain ⟨b1, o1, e1, c1⟩ := hc _ _ (prC_at ps i hi).1
  obtain ⟨b2, o2, e2, c2⟩ := hc _ _ (prC_at ps i hi).2
  rw [ha] at e1 e2
  cases e1; cases e2
  exact ⟨c1, by rw [Nat.add_assoc]; exact c2⟩
end Go.Proofs.Ythfcbjfeepindaa
