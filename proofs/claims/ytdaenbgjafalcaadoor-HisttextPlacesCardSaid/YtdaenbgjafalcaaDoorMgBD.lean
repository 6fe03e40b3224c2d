import Derived.Test.YtdaenbgjafalcaaDoorMgBC
import Derived.Test.YtdaenbgjafalcaaDoorMgAR
import Derived.Test.YtdaenbgjafalcaaDoorMgAM
namespace Go.Proofs.YtdaenbgjafalcaaDoor
open Go.RowKit
def rwI (c : List Int) : AV := .iv (iInts c)
theorem rnL_rwI (r : Nat → Nat) (xs : List (List Int)) : rnL r (xs.map rwI) = xs.map rwI := rnL_iv r iInts xs
theorem idL_rwI (p : Nat → Bool) (xs : List (List Int)) : idL p (xs.map rwI) = true := idL_iv p iInts xs
theorem rwI_one (xs : List (List Int)) : (xs.map rwI).all AV.one = true := by rw [List.all_map, List.all_eq_true]; exact fun _ _ => rfl
theorem take_rwI {xs : List (List Int)} {n : Nat} (h : xs.length ≤ n) : (xs.map rwI).take n = xs.map rwI := List.take_of_length_le (by simpa using h)
theorem rwI_snoc (xs : List (List Int)) (c : List Int) : xs.map rwI ++ [.iv (iInts c)] = (xs ++ [c]).map rwI := by rw [List.map_append]; rfl
theorem rwI_snoc2 (xs : List (List Int)) (c : List Int) : xs.map rwI ++ [.iv (.sl (fun j => .lit (.int .i64 (c.getD j 0))) c.length 1)] = (xs ++ [c]).map rwI := by rw [List.map_append]; rfl
theorem rwI_at {xs : List (List Int)} {k : Nat} (h : k < xs.length) : (xs.map rwI)[k]? = some (.iv (iInts (xs.getD k []))) := by
  rw [List.getElem?_map, List.getElem?_eq_getElem h, List.getD_eq_getElem?_getD, List.getElem?_eq_getElem h]; rfl
attribute [go_sem] rnL_rwI idL_rwI rwI_one take_rwI rwI_snoc rwI_snoc2 rwI_at
section
variable {P : Program} {tt : TT} {m : Nat} {Q : Exit → XS → Prop} {fr : List AV} {H : AHeap} {M : MS} {l : List Oper}
end
end Go.Proofs.YtdaenbgjafalcaaDoor
namespace Go.Proofs.YtdaenbgjafalcaaDoor
open Go.RowKit
theorem Snap.tri {H : AHeap} {x y z x' y' z' : AV} (h : Snap H x x') (k : Snap H y y') (l : Snap H z z') : Snap H (.tup [x, y, z]) (.tup [x', y', z']) := .tup _ _ rfl fun i a b e1 e2 => by
  match i with
  | 0 => simp at e1 e2; subst e1 e2; exact h
  | 1 => simp at e1 e2; subst e1 e2; exact k
  | 2 => simp at e1 e2; subst e1 e2; exact l
  | i + 3 => simp at e1
end Go.Proofs.YtdaenbgjafalcaaDoor
namespace Go.Proofs.YtdaenbgjafalcaaDoor
open Go.RowKit
set_option linter.unusedVariables false
set_option linter.unusedSimpArgs false
section
variable {P : Program} {tt : TT} {m : Nat} {Q : Exit → XS → Prop} {fr : List AV} {H : AHeap} {M : MS} {l : List Oper} {o : Oper} {n0 : Nat} {us : List Nat} {H0 Hc : AHeap} {K : List AV → AHeap → Prop} {al : List Kd}
def kdOfL (c : Bool) (op : Op) : Kd := match op with
  | .load _ _ => .free
  | .buildSlice _ n _ => if n = 0 then .grow else .free
  | op => kdOf c op
def alL (ops : List Oper) : List Kd := ops.map fun o => kdOfL (ops.any fun o => isApp o.op) o.op
end
end Go.Proofs.YtdaenbgjafalcaaDoor
