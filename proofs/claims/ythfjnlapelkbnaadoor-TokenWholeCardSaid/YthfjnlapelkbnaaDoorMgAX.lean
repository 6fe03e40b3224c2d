import Derived.Test.YthfjnlapelkbnaaDoorMgAW
import Derived.Test.YthfjnlapelkbnaaDoorMgAS
import Derived.Test.YthfjnlapelkbnaaDoorMgAT
namespace Go.Proofs.YthfjnlapelkbnaaDoor
open Go.RowKit Go.Lib
set_option linter.unusedVariables false
set_option linter.unusedSimpArgs false
end Go.Proofs.YthfjnlapelkbnaaDoor
namespace Go.Proofs.YthfjnlapelkbnaaDoor
open Go.RowKit Go.Lib
set_option linter.unusedVariables false
set_option linter.unusedSimpArgs false
def dz (m : Nat) : List UInt8 := if m = 0 then [] else decDigits m
end Go.Proofs.YthfjnlapelkbnaaDoor
namespace Go.Proofs.YthfjnlapelkbnaaDoor
open Go.RowKit Go.Lib
set_option linter.unusedVariables false
set_option linter.unusedSimpArgs false
end Go.Proofs.YthfjnlapelkbnaaDoor
