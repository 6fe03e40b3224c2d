import Derived.Test.YtghdacijcnmhlaaDoorRows
import Derived.WalkKit
import Derived.WalkSpells
import Derived.WalkLawsBesides
import Derived.BigGuardPart
import Derived.Handy
import Derived.Lib.Hide
import Derived.Test.YtghdacijcnmhlaaDoorMgAO
import Derived.Test.YtghdacijcnmhlaaDoorMgAA
import Derived.Test.YtghdacijcnmhlaaDoorMgAP
namespace Go.Proofs.YtghdacijcnmhlaaDoor
open Go.RowKit
set_option linter.unusedVariables false
theorem lit_variable (l : Int) (w : World) : Calls Tryd.prog 77 #[.int .i64 l] w fun e w' => e = .returned (.int .i64 (lvar l)) ∧ w' = w := by
  go_enter Tryd.func77, Tryd.ntmps77
  go_wp2
  all_goals (go_returns; refine ⟨ret_int ?_, rfl⟩; unfold lvar; split <;> (try split) <;> omega)
theorem lit_Var (l : Int) (w : World) : Calls Tryd.prog 72 #[.int .i64 l] w fun e w' => e = .returned (.int .i64 (lvar l)) ∧ w' = w := by
  go_enter Tryd.func72, Tryd.ntmps72
  go_wp2_with (go_at_call 77; refine (lit_variable _ _).mono ?_; rintro e w' ⟨rfl, rfl⟩)
  go_ret
  exact ⟨rfl, rfl⟩
theorem lit_Check (l vars : Int) (w : World) : Calls Tryd.prog 62 #[.int .i64 l, .int .i64 vars] w fun e w' => e = .returned (.int .i64 (lcheck l vars)) ∧ w' = w := by
  have hb := lvar_bd l
  go_enter Tryd.func62, Tryd.ntmps62
  go_wp2_with (go_at_call 72; refine (lit_Var _ _).mono ?_; rintro e w' ⟨rfl, rfl⟩)
  all_goals (go_returns; refine ⟨ret_int ?_, rfl⟩; unfold lcheck; split <;> (try split) <;> (try omega) <;> (simp_all; try omega))
theorem ref_Check (l vars : Int) (w : World) : Calls Tryd.prog 52 #[.int .i64 l, .int .i64 vars] w fun e w' => e = .returned (.int .i64 (lcheck l vars)) ∧ w' = w := by
  have hb := lvar_bd l
  go_enter Tryd.func52, Tryd.ntmps52
  go_wp2_with (go_at_call 64; refine (ref_Split _ _).mono ?_; rintro e w' ⟨rfl, rfl⟩)
  all_goals (go_returns; refine ⟨ret_int ?_, rfl⟩; unfold lcheck; split <;> (try split) <;> (try omega) <;> (simp_all; try omega))
end Go.Proofs.YtghdacijcnmhlaaDoor
namespace Go.Proofs.YtghdacijcnmhlaaDoor
open Go.RowKit
set_option linter.unusedVariables false
def litT (m : List Bool) (l : Int) : Bool := decide (lvar l ≠ 0) && ((decide (lvar l ≤ m.length) && m.getD ((lvar l).toNat - 1) false) == lside l)
def holdsC (m : List Bool) (c : List Int) : Bool := c.any (litT m)
end Go.Proofs.YtghdacijcnmhlaaDoor
namespace Go.Proofs.YtghdacijcnmhlaaDoor
set_option linter.unusedVariables false
end Go.Proofs.YtghdacijcnmhlaaDoor
namespace Go.Proofs.YtghdacijcnmhlaaDoor
set_option linter.unusedVariables false
def fFind {α : Type} (p : α → Bool) (xs : List α) : Int := if xs.any p then (xs.findIdx p : Int) else -1
def fFirst (m : List Bool) (xss : List (List Int)) : Int := fFind (fun c => !holdsC m c) xss
def fHolds (vars : Int) (m : List Bool) (xss : List (List Int)) : Bool := decide ((m.length : Int) = vars) && decide (fFirst m xss = -1)
def fStat (l : List Int) (xss : List (List Int)) : Int := if xss.any (fun c => decide (aCl l c = -1)) then -1 else if xss.all (fun c => decide (aCl l c = 1)) then 1 else 0
end Go.Proofs.YtghdacijcnmhlaaDoor
