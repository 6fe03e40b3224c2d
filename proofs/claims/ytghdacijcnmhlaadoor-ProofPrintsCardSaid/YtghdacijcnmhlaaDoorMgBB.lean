import Derived.Test.YtghdacijcnmhlaaDoorMgBA
import Derived.Test.YtghdacijcnmhlaaDoorMgAL
import Derived.Test.YtghdacijcnmhlaaDoorMgAZ
import Derived.Test.YtghdacijcnmhlaaDoorMgAK
namespace Go.Proofs.YtghdacijcnmhlaaDoor
open Go.RowKit Go.Lib
set_option linter.unusedVariables false
set_option linter.unusedSimpArgs false
def pz : Bool → AV
  | true => .xptr 0 2
  | false => lt (.pointer none)
theorem rnL_u8C (r : Nat → Nat) (l : List UInt8) : rnL r (u8C l) = u8C l := by unfold u8C; rw [rnL_map, List.map_map]; rfl
theorem idL_u8C (p : Nat → Bool) (l : List UInt8) : idL p (u8C l) = true := by unfold u8C; rw [idL_all, List.all_map, List.all_eq_true]; exact fun _ _ => rfl
attribute [go_sem] rnL_u8C idL_u8C
end Go.Proofs.YtghdacijcnmhlaaDoor
namespace Go.Proofs.YtghdacijcnmhlaaDoor
open Go.RowKit Go.Lib
set_option linter.unusedVariables false
set_option linter.unusedSimpArgs false
end Go.Proofs.YtghdacijcnmhlaaDoor
namespace Go.Proofs.YtghdacijcnmhlaaDoor
open Go.RowKit Go.Lib
set_option linter.unusedVariables false
set_option linter.unusedSimpArgs false
def wordOk (l : List UInt8) : Bool := !l.isEmpty && l.all fun b => !(isSp b) && !(b == 10)
end Go.Proofs.YtghdacijcnmhlaaDoor
namespace Go.Proofs.YtghdacijcnmhlaaDoor
open Go.RowKit Go.Lib
set_option linter.unusedVariables false
set_option linter.unusedSimpArgs false
end Go.Proofs.YtghdacijcnmhlaaDoor
