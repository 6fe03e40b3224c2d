/- The contracts of times.counts and of the variable that a pair's clause has. -/
import Derived.Test.YthfcbjfeepindaaOpeC
namespace Go.Proofs.Ythfcbjfeepindaa
open Go.RowKit
set_option linter.unusedVariables false
set_option linter.unusedSimpArgs false

def tCounts (n x y : Int) : Bool := decide ((0 ≤ x ∧ x < n) ∧ (0 ≤ y ∧ y < n) ∧ x ≠ y)

set_option maxRecDepth 100000 in
theorem tim_counts (n x y : Int) (w : World) : Calls Try.prog 84 #[.int .i64 n, .agg #[.int .i64 x, .int .i64 y]] w fun e w' => e = .returned (.bool (tCounts n x y)) ∧ Below w.heap.size w w' := by
  have hx0 : ∀ w, (Instr.index 70 (.agg #[.int .i64 x, .int .i64 y]) (.int .i64 0)).run Try.prog w = .ok (.int .i64 x) w := fun w => by kernel_rfl
  have hx1 : ∀ w, (Instr.index 70 (.agg #[.int .i64 x, .int .i64 y]) (.int .i64 1)).run Try.prog w = .ok (.int .i64 y) w := fun w => by kernel_rfl
  by_cases hx : x < 0 ∨ n ≤ x
  · have HV : Hid (tCounts n x y = false) := Lib.hid (decide_eq_false (fun h => by omega))
    have hd : decide (x < 0) = true ∨ (decide (x < 0) = false ∧ decide (n ≤ x) = true) := by
      rcases hx with h | h
      · exact Or.inl (decide_eq_true h)
      · by_cases h2 : x < 0
        · exact Or.inl (decide_eq_true h2)
        · exact Or.inr ⟨decide_eq_false h2, decide_eq_true h⟩
    clear hx
    rcases hd with d1 | ⟨d1, d2⟩
    all_goals
      go_enter Try.func84, Try.ntmps84
      go_wp2_with fail
      refine wp_loop_rounds 1 ?_
      rw [rounds_succ]
      go_wp2_with fail
      go_returns
      exact ⟨by rw [HV.out]; rfl, by (repeat (first | (with_reducible exact Below.refl _ _) | (with_reducible assumption) | (with_reducible refine below_alloc ?_ _) | (with_reducible refine below_drew ?_) | (with_reducible refine below_drewN ?_ _) | (with_reducible refine below_step ?_ (by with_reducible assumption))))⟩
  · have d1 : decide (x < 0) = false := decide_eq_false (by omega)
    have d2 : decide (n ≤ x) = false := decide_eq_false (by omega)
    by_cases hy : y < 0 ∨ n ≤ y
    · have HV : Hid (tCounts n x y = false) := Lib.hid (decide_eq_false (fun h => by omega))
      have hd : decide (y < 0) = true ∨ (decide (y < 0) = false ∧ decide (n ≤ y) = true) := by
        rcases hy with h | h
        · exact Or.inl (decide_eq_true h)
        · by_cases h2 : y < 0
          · exact Or.inl (decide_eq_true h2)
          · exact Or.inr ⟨decide_eq_false h2, decide_eq_true h⟩
      clear hx hy
      rcases hd with d3 | ⟨d3, d4⟩
      all_goals
        go_enter Try.func84, Try.ntmps84
        go_wp2_with fail
        refine wp_loop_rounds 2 ?_
        rw [rounds_succ]
        go_wp2_with fail
        rw [rounds_succ]
        go_wp2_with fail
        go_returns
        exact ⟨by rw [HV.out]; rfl, by (repeat (first | (with_reducible exact Below.refl _ _) | (with_reducible assumption) | (with_reducible refine below_alloc ?_ _) | (with_reducible refine below_drew ?_) | (with_reducible refine below_drewN ?_ _) | (with_reducible refine below_step ?_ (by with_reducible assumption))))⟩
    · have d3 : decide (y < 0) = false := decide_eq_false (by omega)
      have d4 : decide (n ≤ y) = false := decide_eq_false (by omega)
      cases hxy : (x != y)
      all_goals
        have HV : Hid (tCounts n x y = (x != y)) := Lib.hid (by
          unfold tCounts
          rw [Bool.eq_iff_iff, decide_eq_true_eq]
          simp only [bne_iff_ne]
          constructor
          · intro h; exact h.2.2
          · intro h; exact ⟨by omega, by omega, h⟩)
        go_enter Try.func84, Try.ntmps84
        go_wp2_with fail
        refine wp_loop_rounds 3 ?_
        rw [rounds_succ]
        go_wp2_with fail
        rw [rounds_succ]
        go_wp2_with fail
        rw [rounds_succ]
        go_wp2_with fail
        go_returns
        exact ⟨by rw [HV.out, hxy]; rfl, by (repeat (first | (with_reducible exact Below.refl _ _) | (with_reducible assumption) | (with_reducible refine below_alloc ?_ _) | (with_reducible refine below_drew ?_) | (with_reducible refine below_drewN ?_ _) | (with_reducible refine below_step ?_ (by with_reducible assumption))))⟩
end Go.Proofs.Ythfcbjfeepindaa
