/- What is told twice, plainly. -/
import Derived.Test.YtblncllnafjkmaaLaw18
import Derived.Test.YtblncllnafjkmaaApp
namespace Go.Proofs.Ytblncllnafjkmaa
open Go.RowKit
set_option linter.unusedVariables false
set_option linter.unusedSimpArgs false

theorem lub_twice (k : Nat) (hk : k ≤ 14) (n : Nat) (hn : n + 1 = 2 ^ (k + 1)) : lFirst ((2 * n + 1 : Nat) : Int) = (lFirst n ++ lFirst n) ++ [(n : Int) + 1] ∧ (lFirst n).length = n ∧ lub (2 * n + 1) = n + 1 := by
  have hp := Nat.two_pow_pos k
  have e1 : 2 ^ (k + 1) = 2 * 2 ^ k := by rw [Nat.pow_succ]; omega
  have e2 : 2 ^ (k + 1 + 1) = 4 * 2 ^ k := by rw [Nat.pow_succ, e1]; omega
  have hb : 2 ^ k ≤ 2 ^ 14 := Nat.pow_le_pow_right (by decide) hk
  have hl : lFirst n = lubUp n := lFirst_up n (by omega) (by omega)
  have h3 : lub (2 * n + 1) = n + 1 := by
    have := lub_top (k + 1)
    rw [show 2 ^ (k + 1 + 1) - 1 = 2 * n + 1 by omega] at this
    rw [this, hn]
  refine ⟨?_, by rw [hl, lubUp_len], h3⟩
  rw [lFirst_up (2 * n + 1) (by omega) (by omega), hl]
  apply List.ext_getElem
  · simp [lubUp]; omega
  · intro i i1 i2
    rw [lubUp_len] at i1
    by_cases c1 : i < n
    · rw [List.getElem_append_left (by simp [lubUp]; omega), List.getElem_append_left (by simpa [lubUp] using c1)]
      simp [lubUp]
    · by_cases c2 : i < 2 * n
      · rw [List.getElem_append_left (by simp [lubUp]; omega), List.getElem_append_right (by simp [lubUp]; omega)]
        simp only [lubUp, List.length_map, List.length_range, List.getElem_map, List.getElem_range]
        rw [lub_rec (i := i + 1) (k := k + 1) (by omega) (by omega)]
        congr 2; omega
      · have c3 : i = 2 * n := by omega
        subst c3
        rw [List.getElem_append_right (by simp [lubUp]; omega)]
        simp only [lubUp, List.getElem_map, List.getElem_range, h3]
        simp

end Go.Proofs.Ytblncllnafjkmaa
