import Derived.Test.YthfjnlapelkbnaaDoorMgAW
import Derived.Test.YthfjnlapelkbnaaDoorMgAV
import Derived.Test.YthfjnlapelkbnaaDoorMgAP
namespace Go.Proofs.YthfjnlapelkbnaaDoor
open Go.RowKit Go.Lib
set_option linter.unusedVariables false
set_option linter.unusedSimpArgs false
end Go.Proofs.YthfjnlapelkbnaaDoor
namespace Go.Proofs.YthfjnlapelkbnaaDoor
open Go.RowKit Go.Lib
set_option linter.unusedVariables false
set_option linter.unusedSimpArgs false
def wordOk (l : List UInt8) : Bool := !l.isEmpty && l.all fun b => !(isSp b) && !(b == 10)
theorem nl_int (c : UInt8) : (c == 10) = decide ((c.toNat : Int) = 10) := by
  rw [Bool.eq_iff_iff]; simp only [beq_iff_eq, decide_eq_true_eq]; exact (u8_int c 10 (by omega)).symm
end Go.Proofs.YthfjnlapelkbnaaDoor
namespace Go.Proofs.YthfjnlapelkbnaaDoor
open Go.RowKit Go.Lib
set_option linter.unusedVariables false
set_option linter.unusedSimpArgs false
end Go.Proofs.YthfjnlapelkbnaaDoor
