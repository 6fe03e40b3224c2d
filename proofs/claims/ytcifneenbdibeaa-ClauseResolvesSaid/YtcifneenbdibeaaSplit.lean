/- The contract of the reference's Split: a literal's variable and side. -/
import Derived.Test.YtcifneenbdibeaaRows
import Derived.WalkKit
import Derived.WalkSpells
import Derived.WalkLawsBesides
import Derived.BigGuardPart
import Derived.Handy
import Derived.Lib.Hide
import Derived.Test.YtcifneenbdibeaaLitP
import Derived.Test.YtcifneenbdibeaaMem
namespace Go.Proofs.Ytcifneenbdibeaa
open Go.RowKit
set_option linter.unusedVariables false

theorem ref_Split (l : Int) (w : World) : Calls Try.prog 35 #[.int .i64 l] w fun e w' => e = .returned (.tuple #[.int .i64 (lvar l), .bool (lside l)]) ∧ w' = w := by
  go_enter Try.func35, Try.ntmps35
  go_wp2
  all_goals (go_returns; refine ⟨ret_intb ?_ ?_, rfl⟩ <;> (try unfold lside) <;> unfold lvar <;> split <;> (try split) <;> (try omega) <;> (simp; try omega))
end Go.Proofs.Ytcifneenbdibeaa
