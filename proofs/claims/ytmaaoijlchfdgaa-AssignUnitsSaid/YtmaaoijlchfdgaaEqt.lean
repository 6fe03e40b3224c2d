/- Two values of three ints each, compared. -/
import Derived.Test.YtmaaoijlchfdgaaRows
import Derived.ChangeKeysEq
import Derived.KernelRfl
import Derived.Shelf.Abstract
namespace Go.Proofs.Ytmaaoijlchfdgaa
set_option linter.unusedVariables false
set_option linter.unusedSimpArgs false
theorem eqt_under : Try.prog.underlying 31 = some (.array 3 3) := by kernel_rfl
theorem eqt_int : Try.prog.underlying 3 = some (.int .i64) := by kernel_rfl
theorem eqt_info : ((Try.prog.info? 3).isSome && Try.prog.cellsOf 3 == 1) = true := by kernel_rfl
theorem eq_one (d : Nat) (a b : Int) (w : World) : (Op.equalIn (d + 1) 3 (.int .i64 a) (.int .i64 b)).run Try.prog w = .ok (a == b) w := by
  simp [Op.equalIn, run_underlying eqt_int]
@[go_sem] theorem eq_three (a b c d e f : Int) (w : World) : (Op.equalIn 10000 31 (.agg #[.int .i64 a, .int .i64 b, .int .i64 c]) (.agg #[.int .i64 d, .int .i64 e, .int .i64 f])).run Try.prog w = .ok (a == d && (b == e && c == f)) w := by
  have h := eqt_info
  rw [Bool.and_eq_true, beq_iff_eq] at h
  obtain ⟨i, hi⟩ := Option.isSome_iff_exists.1 h.1
  have hg : ∀ w, (isAgg 3).run Try.prog w = .ok false w := fun w => by simp [isAgg, run_underlying eqt_int]
  rw [show (10000 : Nat) = 9999 + 1 from rfl, run_equalIn_array w 9999 _ _ eqt_under hi, h.2]
  rw [show (9999 : Nat) = 9998 + 1 from rfl]
  simp [Op.eqItems, List.range_succ, part, hg, eq_one]
  by_cases h1 : a = d <;> by_cases h2 : b = e <;> by_cases h3 : c = f <;> simp [h1, h2, h3]
end Go.Proofs.Ytmaaoijlchfdgaa
