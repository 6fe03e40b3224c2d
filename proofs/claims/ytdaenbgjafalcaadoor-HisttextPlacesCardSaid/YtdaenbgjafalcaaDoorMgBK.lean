import Derived.Test.YtdaenbgjafalcaaDoorMgBJ
import Derived.Test.YtdaenbgjafalcaaDoorMgBC
import Derived.Test.YtdaenbgjafalcaaDoorMgAV
import Derived.Test.YtdaenbgjafalcaaDoorMgAZ
namespace Go.Proofs.YtdaenbgjafalcaaDoor
open Go.RowKit Go.Lib
set_option linter.unusedVariables false
set_option linter.unusedSimpArgs false
deriving instance DecidableEq for Rw
theorem Rw.ext' {x y : Rw} (h1 : x.s = y.s) (h2 : x.k = y.k) (h3 : x.n = y.n) (h4 : x.r = y.r) : x = y := by
  cases x; cases y; cases h1; cases h2; cases h3; cases h4; rfl
theorem rwAt_get {xs : List Rw} {i : Nat} (h : i < xs.length) : rwAt xs i = xs[i] := by
  unfold rwAt; rw [List.getD_eq_getElem?_getD, List.getElem?_eq_getElem h]; rfl
def obSm (a b : Ob) : Bool := decide (a.S = b.S ∧ a.K = b.K ∧ a.I = b.I ∧ a.R = b.R)
end Go.Proofs.YtdaenbgjafalcaaDoor
namespace Go.Proofs.YtdaenbgjafalcaaDoor
open Go.RowKit
set_option linter.unusedVariables false
set_option linter.unusedSimpArgs false
def plainV (P : Program) (t : TypeId) (v : Value) : Bool := P.plainKey t && match P.underlying t, v with
  | some (.int .i64), .int .i64 _ => true
  | some .string, .string _ => true
  | some .bool, .bool _ => true
  | _, _ => false
def eqV : Value → Value → Bool
  | .int .i64 a, .int .i64 b => a == b
  | .string a, .string b => a.toList == b.toList
  | .bool a, .bool b => a == b
  | _, _ => false
def eqL : List Value → List Value → Bool
  | u :: us, v :: vs => eqV u v && eqL us vs
  | _, _ => true
def mixF (P : Program) : Nat → List Field → List Value → List Value → Bool
  | _, [], [], [] => true
  | k, f :: fs, u :: us, v :: vs => f.name != "_" && f.offset == k && plainV P f.type u && plainV P f.type v && mixF P (k + 1) fs us vs
  | _, _, _, _ => false
def eqMix (P : Program) (t : Nat) (us vs : List Value) : Bool := !P.eqGuardType P.depth t && match P.underlying t with
  | some (.struct fs) => mixF P 0 fs.toList us vs && !P.stoodInHeld t
  | _ => false
section
variable {P : Program}
variable {m : Nat} {Q : Exit → XS → Prop} {fr : List AV} {H : AHeap} {M : MS} {l : List Oper} {d : Option Tmp} {t2 ty : TypeId} {pos : String} {after : Array Edge} {g : Option (Nat × Bool)}
end
end Go.Proofs.YtdaenbgjafalcaaDoor
namespace Go.Proofs.YtdaenbgjafalcaaDoor
open Go.RowKit Go.Lib
set_option linter.unusedVariables false
set_option linter.unusedSimpArgs false
end Go.Proofs.YtdaenbgjafalcaaDoor
