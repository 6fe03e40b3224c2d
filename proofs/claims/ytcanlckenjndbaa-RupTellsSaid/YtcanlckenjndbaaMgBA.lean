import Derived.Test.YtcanlckenjndbaaMgAZ
import Derived.Test.YtcanlckenjndbaaMgAV
namespace Go.Proofs.Ytcanlckenjndbaa
open Go.RowKit
set_option linter.unusedVariables false
set_option linter.unusedSimpArgs false
section
variable {P : Program} {tt : TT} {m : Nat} {Q : Exit → XS → Prop} {fr : List AV} {H : AHeap} {M : MS} {l : List Oper} {o : Oper} {n0 : Nat} {us : List Nat} {H0 Hc : AHeap} {K : List AV → AHeap → Prop} {al : List Kd}
def kdOfL (c : Bool) (op : Op) : Kd := match op with
  | .load _ _ => .free
  | .buildSlice _ n _ => if n = 0 then .grow else .free
  | op => kdOf c op
def alL (ops : List Oper) : List Kd := ops.map fun o => kdOfL (ops.any fun o => isApp o.op) o.op
end
end Go.Proofs.Ytcanlckenjndbaa
namespace Go.Proofs.Ytcanlckenjndbaa
open Go.RowKit
set_option linter.unusedVariables false
section
variable {P : Program} {n0 : Nat} {us : List Nat} {H0 : AHeap} {K : List AV → AHeap → Prop} {Hc : AHeap} {al : List Kd} {fr : List AV} {l : List Oper} {args : Array Operand} {tys : Array TypeId} {d : Option Tmp} {ty : TypeId} {pos : String} {after : Array Edge} {g : Option (Nat × Bool)}
end
end Go.Proofs.Ytcanlckenjndbaa
namespace Go.Proofs.Ytcanlckenjndbaa
open Go.RowKit
set_option linter.unusedVariables false
set_option linter.unusedSimpArgs false
variable {P : Program} {m : Nat} {Q : Exit → XS → Prop} {fr : List AV} {H : AHeap} {M : MS} {tt : TT}
def kdU : Op → Kd
  | .load _ _ => .read
  | .store _ _ _ => .chg
  | .alloc _ | .box _ _ | .buildSlice _ _ _ | .makeSlice _ _ _ => .grow
  | .call c => match c.callee with
    | .builtin .append => .chg
    | .builtin _ => .free
    | _ => .read
  | _ => .free
def alU (ops : List Oper) : List Kd := ops.map fun o => kdU o.op
variable {n0 : Nat} {us : List Nat} {H0 : AHeap} {K : List AV → AHeap → Prop} {Hc : AHeap} {al : List Kd} {l : List Oper} {args : Array Operand} {tys : Array TypeId} {d : Option Tmp} {ty : TypeId} {pos : String} {after : Array Edge} {g : Option (Nat × Bool)}
end Go.Proofs.Ytcanlckenjndbaa
