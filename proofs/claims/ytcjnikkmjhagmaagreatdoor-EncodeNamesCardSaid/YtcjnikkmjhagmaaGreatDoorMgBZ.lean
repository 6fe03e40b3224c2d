import Derived.Test.YtcjnikkmjhagmaaGreatDoorMgBL
import Derived.Test.YtcjnikkmjhagmaaGreatDoorMgBX
import Derived.Test.YtcjnikkmjhagmaaGreatDoorMgBY
import Derived.Test.YtcjnikkmjhagmaaGreatDoorMgBB
namespace Go.Proofs.YtcjnikkmjhagmaaGreatDoor
open Go.RowKit
set_option linter.unusedVariables false
set_option linter.unusedSimpArgs false
end Go.Proofs.YtcjnikkmjhagmaaGreatDoor
namespace Go.Proofs.YtcjnikkmjhagmaaGreatDoor
open Go.RowKit
set_option linter.unusedVariables false
set_option linter.unusedSimpArgs false
theorem rows_app (xs ys : List (List Int)) : xs.map rowA ++ ys.map rowA = (xs ++ ys).map rowA := List.map_append.symm
end Go.Proofs.YtcjnikkmjhagmaaGreatDoor
namespace Go.Proofs.YtcjnikkmjhagmaaGreatDoor
open Go.RowKit
set_option linter.unusedVariables false
set_option linter.unusedSimpArgs false
variable {P : Program} {m : Nat} {Q : Exit → XS → Prop} {fr : List AV} {H : AHeap} {M : MS} {tt : TT}
def kdW : Op → Kd
  | .load _ _ => .read
  | .store _ _ _ => .chg
  | .buildSlice _ n _ => if n = 0 then .grow else .free
  | .alloc _ | .box _ _ | .makeSlice _ _ _ => .grow
  | .call c => match c.callee with
    | .builtin .append => .new
    | .builtin _ => .free
    | _ => .read
  | _ => .free
def alW (ops : List Oper) : List Kd := ops.map fun o => kdW o.op
theorem AX_drawW (hT : TyOK P tt) (hmx : P.follows .mixedOrders = true) {id : Nat} {ops : List Oper} (hord : ordOK ops.toArray ops.length (alW ops) = true)
    (h : ∀ (K : List AV → AHeap → Prop), (∀ F H', Q .normal ⟨F, H', M⟩ → K F H') → ADR P H.length [] H K H (ops.map (strip (dsts ops)), alW ops, fr)) : AX P m (.region id ops.toArray true) Q ⟨fr, H, M⟩ :=
  AX_drawS hT hmx (alW ops) ops.length 0 hord fun K hK => by
    have e : extH 0 H = H := by simp [extH]
    rw [e, List.take_length]
    exact h K fun F H' hq => hK F H' (by rw [List.drop_length]; exact XRes_nil hq)
variable {n0 : Nat} {us : List Nat} {H0 : AHeap} {K : List AV → AHeap → Prop} {Hc : AHeap} {al : List Kd} {l : List Oper} {o : Oper}
theorem ADR_new1 (hT : TyOK P tt) (hw : wantedS fr o = some true) {x : AV} {H' : AHeap} (ha : aop tt ⟨fr, Hc⟩ o = some (x, H')) (hl : Hc.length ≤ H'.length) (hs : Sub H0 Hc → Sub H0 H') (h : ADR P n0 us H0 K H' (l, al, putL fr o.dst x)) : ADR P n0 us H0 K Hc (o :: l, .new :: al, fr) := fun n hn =>
  ⟨x, H', none, .new x H' (wanted_iff hn hw) hl hs (does_aop hT ha), h n (by show (putL _ _ _).length ≤ n; rw [putL_len]; exact hn)⟩
end Go.Proofs.YtcjnikkmjhagmaaGreatDoor
