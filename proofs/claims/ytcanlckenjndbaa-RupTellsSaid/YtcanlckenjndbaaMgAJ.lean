import Derived.Test.YtcanlckenjndbaaRows
import Derived.WalkKit
import Derived.WalkSpells
import Derived.WalkLawsBesides
import Derived.BigGuardPart
import Derived.Handy
import Derived.Lib.Hide
import Derived.Test.YtcanlckenjndbaaMgAI
import Derived.Test.YtcanlckenjndbaaMgAA
namespace Go.Proofs.Ytcanlckenjndbaa
open Go.RowKit
set_option linter.unusedVariables false
theorem ref_Split (l : Int) (w : World) : Calls Try.prog 69 #[.int .i64 l] w fun e w' => e = .returned (.tuple #[.int .i64 (lvar l), .bool (lside l)]) ∧ w' = w := by
  go_enter Try.func69, Try.ntmps69
  go_wp2
  all_goals (go_returns; refine ⟨ret_intb ?_ ?_, rfl⟩ <;> (try unfold lside) <;> unfold lvar <;> split <;> (try split) <;> (try omega) <;> (simp; try omega))
end Go.Proofs.Ytcanlckenjndbaa
namespace Go.Proofs.Ytcanlckenjndbaa
open Go.RowKit
set_option linter.unusedVariables false
def litT (m : List Bool) (l : Int) : Bool := decide (lvar l ≠ 0) && ((decide (lvar l ≤ m.length) && m.getD ((lvar l).toNat - 1) false) == lside l)
def holdsC (m : List Bool) (c : List Int) : Bool := c.any (litT m)
end Go.Proofs.Ytcanlckenjndbaa
namespace Go.Proofs.Ytcanlckenjndbaa
set_option linter.unusedVariables false
end Go.Proofs.Ytcanlckenjndbaa
