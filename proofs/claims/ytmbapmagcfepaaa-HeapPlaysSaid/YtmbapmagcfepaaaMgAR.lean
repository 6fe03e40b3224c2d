import Derived.Test.YtmbapmagcfepaaaMgAQ
import Derived.Test.YtmbapmagcfepaaaMgAN
import Derived.Test.YtmbapmagcfepaaaMgAM
namespace Go.Proofs.Ytmbapmagcfepaaa
def lb (b : Bool) : AV := lt (.bool b)
theorem rnL_lb (r : Nat → Nat) (xs : List Bool) : rnL r (xs.map lb) = xs.map lb := by rw [rnL_map, List.map_map]; rfl
theorem idL_lb (p : Nat → Bool) (xs : List Bool) : idL p (xs.map lb) = true := by rw [idL_all, List.all_map, List.all_eq_true]; exact fun _ _ => rfl
theorem lb_at {xs : List Bool} {k : Nat} (h : k < xs.length) : (xs.map lb)[k]? = some (lt (.bool (xs.getD k false))) := by
  rw [List.getElem?_map, List.getElem?_eq_getElem h, List.getD_eq_getElem?_getD, List.getElem?_eq_getElem h]; rfl
theorem lb_set (xs : List Bool) (k : Nat) (v : Bool) : (xs.map lb).set k (lt (.bool v)) = (xs.set k v).map lb := by rw [List.map_set]; rfl
theorem lb_snoc (xs : List Bool) (v : Bool) : xs.map lb ++ [lt (.bool v)] = (xs ++ [v]).map lb := by rw [List.map_append]; rfl
theorem lb_one (xs : List Bool) : (xs.map lb).all AV.one = true := by rw [List.all_map, List.all_eq_true]; exact fun _ _ => rfl
theorem take_lb {xs : List Bool} {n : Nat} (h : xs.length ≤ n) : (xs.map lb).take n = xs.map lb := List.take_of_length_le (by simpa using h)
theorem snap_lb {H : AHeap} {o : Nat} {t : TypeId} {xs : List Bool} {n : Nat} (h : H[o]? = some (some ⟨t, xs.map lb⟩)) (hn : n = xs.length) : Snap H (.osl o 0 n 1) (.iv (iBools xs)) := by
  subst hn
  exact .iv _ _ (SnapC.lits (fun j => .bool (xs.getD j false)) h fun j hj => by rw [Nat.zero_add]; exact lb_at hj)
theorem Snap.twoP {H : AHeap} {x y x' y' : AV} (h : Snap H x x') (k : Snap H y y') : Snap H (.tup [x, y]) (.tup [x', y']) := .tup _ _ rfl fun i a b e1 e2 => by
  match i with
  | 0 => simp at e1 e2; subst e1 e2; exact h
  | 1 => simp at e1 e2; subst e1 e2; exact k
  | i + 2 => simp at e1
attribute [go_sem] rnL_lb idL_lb lb_at lb_set lb_snoc lb_one take_lb
theorem range_lb (xs : List Bool) : (List.range xs.length).map (fun j => AV.iv (IV.lit (Value.bool (xs.getD j false)))) = xs.map lb := by
  apply List.ext_getElem
  · simp
  · intro i h1 h2
    have hi : i < xs.length := by simpa using h1
    simp [List.getD, hi, lb]
end Go.Proofs.Ytmbapmagcfepaaa
namespace Go.Proofs.Ytmbapmagcfepaaa
open Go.RowKit
set_option linter.unusedVariables false
set_option linter.unusedSimpArgs false
section
variable {P : Program} {tt : TT} {m : Nat} {Q : Exit → XS → Prop} {fr : List AV} {H : AHeap} {M : MS} {l : List Oper}
theorem RI.congr {fz : Nat → Option Obj} {get get' : Nat → IV} {len sz : Nat} {v : Value} (h : RI fz (.sl get len sz) v) (he : ∀ j, j < len * sz → get j = get' j) : RI fz (.sl get' len sz) v := by
  cases h with
  | nil _ _ cap hc => exact .nil _ _ cap hc
  | empty _ _ a cap hc => exact .empty _ _ a cap hc
  | sl _ _ _ b off cap cs t fr vs h1 h2 h3 h4 h5 => exact .sl _ _ _ b off cap cs t fr vs h1 h2 (fun j hj => by rw [← he j hj]; exact h3 j hj) h4 h5
theorem RA.congr {n : Nat} {G : Gh} {get get' : Nat → IV} {len sz : Nat} {v : Value} (h : RA n G (.iv (.sl get len sz)) v) (he : ∀ j, j < len * sz → get j = get' j) : RA n G (.iv (.sl get' len sz)) v := by
  cases h with
  | iv _ _ hr => exact .iv _ _ (hr.congr he)
theorem SF.args {f : FuncId} {as1 as2 : List AV} {K : AV → AHeap → Prop} (h : SF P f as2 H K) (ha : ∀ G vs, RL H.length G as1 vs → RL H.length G as2 vs) : SF P f as1 H K :=
  ⟨h.callable, fun G w vs hi hr => h.calls G w vs hi (ha G vs hr)⟩
def intOf : AV → Int
  | .iv (.lit (.int _ x)) => x
  | _ => 0
end
end Go.Proofs.Ytmbapmagcfepaaa
namespace Go.Proofs.Ytmbapmagcfepaaa
open Go.RowKit
set_option linter.unusedVariables false
set_option linter.unusedSimpArgs false
section
variable {P : Program} {tt : TT} {m : Nat} {Q : Exit → XS → Prop} {fr : List AV} {H : AHeap} {M : MS} {l : List Oper} {o : Oper} {n0 : Nat} {us : List Nat} {H0 Hc : AHeap} {K : List AV → AHeap → Prop} {al : List Kd}
def kdOfL (c : Bool) (op : Op) : Kd := match op with
  | .load _ _ => .free
  | .buildSlice _ n _ => if n = 0 then .grow else .free
  | op => kdOf c op
def alL (ops : List Oper) : List Kd := ops.map fun o => kdOfL (ops.any fun o => isApp o.op) o.op
end
theorem range_take {xs : List Int} {k : Nat} (h : k ≤ xs.length) : (List.range k).map (fun j => lint (xs.getD j 0)) = (xs.take k).map lint := by
  apply List.ext_getElem?
  intro i
  rw [List.getElem?_map, List.getElem?_map, List.getElem?_take]
  by_cases hi : i < k
  · rw [List.getElem?_range hi, if_pos hi, List.getElem?_eq_getElem (by omega : i < xs.length)]; show some (lint (xs.getD i 0)) = some (lint xs[i]); rw [List.getD_eq_getElem?_getD, List.getElem?_eq_getElem (by omega : i < xs.length)]; rfl
  · rw [List.getElem?_eq_none (by simpa using hi), if_neg hi]; rfl
theorem range_takeI {xs : List Int} {k : Nat} (h : k ≤ xs.length) : (List.range k).map (fun j => AV.iv (IV.lit (Value.int IntKind.i64 (xs.getD j 0)))) = (xs.take k).map lint := range_take h
end Go.Proofs.Ytmbapmagcfepaaa
