/- The answers that layer 1's statements ask: awake. -/
import Derived.Test.YtinfdlkolkndlaaLitV
namespace Go.Proofs.Ytinfdlkolkndlaa
open Go.RowKit
set_option linter.unusedVariables false

set_option maxHeartbeats 1000000 in
theorem law01_awake (w : World) : Calls Try.prog 19 #[] w fun e w' => e = .returned (.bool true) ∧ Below w.heap.size w w' := by
  have e1 : lmake 3 false = -3 := by decide
  have e2 : lmakeE 3 false = 0 := by decide
  have e3 : lmakeE 0 true = 10 := by decide
  have e4 : lindex (-3) = 5 := by decide
  have e5 : lfrom 4 = 3 := by decide
  have e6 : lvar (-3) = 3 := by decide
  have e7 : lneg (-3) = 3 := by decide
  have e8 : lneg 0 = 0 := by decide
  have e9 : lindex 0 = -1 := by decide
  have e10 : lcheck 4 3 = 10 := by decide
  have e11 : lcheck (-3) 3 = 0 := by decide
  have e12 : lcheck 1 (-1) = 2 := by decide
  have e13 : lof [1, -2, 3, -3] 3 = 2 := by decide
  have e14 : lof [1, -2] 2 = -1 := by decide
  have e15 : lmost [1, -7, 3] = 7 := by decide
  go_enter Try.func19, Try.ntmps19
  go_wp2_with (first | (go_at_call 8; refine (lit_Make _ _ _).mono ?_; rintro e w' ⟨rfl, rfl⟩) | (go_at_call 15; refine (lit_Index _ _).mono ?_; rintro e w' ⟨rfl, rfl⟩) | (go_at_call 17; refine (lit_From _ _).mono ?_; rintro e w' ⟨rfl, rfl⟩) | (go_at_call 12; refine (lit_Var _ _).mono ?_; rintro e w' ⟨rfl, rfl⟩) | (go_at_call 13; refine (lit_Neg _ _).mono ?_; rintro e w' ⟨rfl, rfl⟩) | (go_at_call 10; refine (lit_Check _ _ _).mono ?_; rintro e w' ⟨rfl, rfl⟩))
  refine (lit_Of _ _ _ _ _ _ (IntRow.made _ _ [1, -2, 3, -3] (by decide))).mono ?_
  rintro e w1 ⟨rfl, hb1⟩
  go_wp2_with fail
  refine (lit_Of _ _ _ _ _ _ (IntRow.made _ _ [1, -2] (by decide))).mono ?_
  rintro e w2 ⟨rfl, hb2⟩
  go_wp2_with fail
  refine (lit_Most _ _ _ _ _ (IntRow.made _ _ [1, -7, 3] (by decide))).mono ?_
  rintro e w3 ⟨rfl, rfl⟩
  go_wp2_with fail
  go_returns
  exact ⟨rfl, by (repeat (first | (with_reducible exact Below.refl _ _) | (with_reducible assumption) | (with_reducible refine below_alloc ?_ _) | (with_reducible refine below_drew ?_) | (with_reducible refine below_drewN ?_ _) | (with_reducible refine below_step ?_ (by with_reducible assumption))))⟩

end Go.Proofs.Ytinfdlkolkndlaa
