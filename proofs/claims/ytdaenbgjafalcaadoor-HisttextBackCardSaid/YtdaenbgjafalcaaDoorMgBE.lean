import Derived.Test.YtdaenbgjafalcaaDoorMgBD
import Derived.Test.YtdaenbgjafalcaaDoorMgAR
import Derived.Test.YtdaenbgjafalcaaDoorMgAM
namespace Go.Proofs.YtdaenbgjafalcaaDoor
open Go.RowKit
def rwI (c : List Int) : AV := .iv (iInts c)
theorem rnL_rwI (r : Nat → Nat) (xs : List (List Int)) : rnL r (xs.map rwI) = xs.map rwI := rnL_iv r iInts xs
theorem idL_rwI (p : Nat → Bool) (xs : List (List Int)) : idL p (xs.map rwI) = true := idL_iv p iInts xs
theorem rwI_one (xs : List (List Int)) : (xs.map rwI).all AV.one = true := by rw [List.all_map, List.all_eq_true]; exact fun _ _ => rfl
theorem take_rwI {xs : List (List Int)} {n : Nat} (h : xs.length ≤ n) : (xs.map rwI).take n = xs.map rwI := List.take_of_length_le (by simpa using h)
theorem rwI_snoc (xs : List (List Int)) (c : List Int) : xs.map rwI ++ [.iv (iInts c)] = (xs ++ [c]).map rwI := by rw [List.map_append]; rfl
theorem rwI_snoc2 (xs : List (List Int)) (c : List Int) : xs.map rwI ++ [.iv (.sl (fun j => .lit (.int .i64 (c.getD j 0))) c.length 1)] = (xs ++ [c]).map rwI := by rw [List.map_append]; rfl
theorem rwI_at {xs : List (List Int)} {k : Nat} (h : k < xs.length) : (xs.map rwI)[k]? = some (.iv (iInts (xs.getD k []))) := by
  rw [List.getElem?_map, List.getElem?_eq_getElem h, List.getD_eq_getElem?_getD, List.getElem?_eq_getElem h]; rfl
attribute [go_sem] rnL_rwI idL_rwI rwI_one take_rwI rwI_snoc rwI_snoc2 rwI_at
section
variable {P : Program} {tt : TT} {m : Nat} {Q : Exit → XS → Prop} {fr : List AV} {H : AHeap} {M : MS} {l : List Oper}
end
end Go.Proofs.YtdaenbgjafalcaaDoor
namespace Go.Proofs.YtdaenbgjafalcaaDoor
open Go.RowKit
theorem Snap.tri {H : AHeap} {x y z x' y' z' : AV} (h : Snap H x x') (k : Snap H y y') (l : Snap H z z') : Snap H (.tup [x, y, z]) (.tup [x', y', z']) := .tup _ _ rfl fun i a b e1 e2 => by
  match i with
  | 0 => simp at e1 e2; subst e1 e2; exact h
  | 1 => simp at e1 e2; subst e1 e2; exact k
  | 2 => simp at e1 e2; subst e1 e2; exact l
  | i + 3 => simp at e1
end Go.Proofs.YtdaenbgjafalcaaDoor
namespace Go.Proofs.YtdaenbgjafalcaaDoor
open Go.RowKit
set_option linter.unusedVariables false
set_option linter.unusedSimpArgs false
section
variable {P : Program} {tt : TT} {m : Nat} {Q : Exit → XS → Prop} {fr : List AV} {H : AHeap} {M : MS} {l : List Oper} {o : Oper} {n0 : Nat} {us : List Nat} {H0 Hc : AHeap} {K : List AV → AHeap → Prop} {al : List Kd}
theorem ADR_litI (hT : TyOK P tt) (y : IV) (hw : wantedS fr o = some true) (ha : ∀ H, ∃ x obj, aop tt ⟨fr, H⟩ o = some (x, H ++ [some obj]) ∧ SnapC (onlyH [H.length] (H ++ [some obj])) x y) (h : ADR P n0 us H0 K Hc (l, al, putL fr o.dst (.iv y))) : ADR P n0 us H0 K Hc (o :: l, .free :: al, fr) := fun n hn =>
  ⟨.iv y, Hc, none, .free _ (wanted_iff hn hw) fun H => by
    obtain ⟨x, obj, h1, h2⟩ := ha H
    exact does_lit hT h1 h2, h n (by show (putL _ _ _).length ≤ n; rw [putL_len]; exact hn)⟩
theorem ADR_litF (hT : TyOK P tt) {d : Option Tmp} {t n : Nat} {ps : Array (Nat × Operand)} {ty : TypeId} {pos : String} {after : Array Edge} {g : Option (Nat × Bool)} (hw : wantedS fr ⟨d, .buildSlice t n ps, ty, pos, after, g⟩ = some true)
    {len sz : Nat} {e : TypeId} {cs : List AV} (ha : abuildSlice tt [] t n (ps.toList.map fun p => (p.1, AS.ev ⟨fr, H0⟩ p.2)) = some (.osl 0 0 len sz, [some ⟨e, cs⟩])) (hz : sz ≠ 0) (hl : (cs.map intOf).length = len * sz) (hc : cs = (cs.map intOf).map lint)
    (h : ADR P n0 us H0 K Hc (l, al, putL fr d (.iv (iFlat (cs.map intOf) len sz)))) : ADR P n0 us H0 K Hc (⟨d, .buildSlice t n ps, ty, pos, after, g⟩ :: l, .free :: al, fr) := by
  obtain ⟨len', sz', e1, e2⟩ := abuildSlice_at ha
  cases e1
  refine ADR_litI hT (iFlat (cs.map intOf) len sz) hw (fun H => ⟨.osl H.length 0 len sz, ⟨e, cs⟩, ?_, snap_litF hz hl hc⟩) h
  have e : (ps.toList.map fun p => (p.1, AS.ev ⟨fr, H⟩ p.2)) = ps.toList.map fun p => (p.1, AS.ev ⟨fr, H0⟩ p.2) := List.map_congr_left fun y _ => by obtain ⟨a, b⟩ := y; cases b <;> rfl
  simp only [aop]
  rw [e]; exact e2 H
theorem ADR_empty (hT : TyOK P tt) {d : Option Tmp} {t : Nat} {ty : TypeId} {pos : String} {after : Array Edge} {g : Option (Nat × Bool)} (hw : wantedS fr ⟨d, .buildSlice t 0 #[], ty, pos, after, g⟩ = some true)
    (sz : Nat) (e : TypeId) (ha : abuildSlice tt [] t 0 [] = some (.osl 0 0 0 sz, [some ⟨e, []⟩])) (h : ADR P n0 us H0 K (Hc ++ [some ⟨e, []⟩]) (l, al, putL fr d (.osl Hc.length 0 0 sz))) : ADR P n0 us H0 K Hc (⟨d, .buildSlice t 0 #[], ty, pos, after, g⟩ :: l, .grow :: al, fr) := by
  obtain ⟨len', sz', e1, e2⟩ := abuildSlice_at ha
  cases e1
  refine ADR_grow1 hT hw (x := .osl Hc.length 0 0 sz) (new := [some ⟨e, []⟩]) (fun H hl => ?_) h
  simp only [aop]
  rw [← hl]
  exact e2 H
def kdOfL (c : Bool) (op : Op) : Kd := match op with
  | .load _ _ => .free
  | .buildSlice _ n _ => if n = 0 then .grow else .free
  | op => kdOf c op
def alL (ops : List Oper) : List Kd := ops.map fun o => kdOfL (ops.any fun o => isApp o.op) o.op
theorem AX_drawL (hT : TyOK P tt) (hmx : P.follows .mixedOrders = true) {id : Nat} {ops : List Oper} (hord : ordOK ops.toArray ops.length (alL ops) = true)
    (h : ∀ (K : List AV → AHeap → Prop), (∀ F H', Q .normal ⟨F, H', M⟩ → K F H') → ADR P H.length [] H K H (ops.map (strip (dsts ops)), alL ops, fr)) : AX P m (.region id ops.toArray true) Q ⟨fr, H, M⟩ :=
  AX_drawS hT hmx (alL ops) ops.length 0 hord fun K hK => by
    rw [List.take_length]
    exact h K fun F H' hq => hK F H' (by rw [List.drop_length]; exact XRes_nil hq)
end
theorem lint_app (xs ys : List Int) : xs.map lint ++ ys.map lint = (xs ++ ys).map lint := List.map_append.symm
theorem range_take {xs : List Int} {k : Nat} (h : k ≤ xs.length) : (List.range k).map (fun j => lint (xs.getD j 0)) = (xs.take k).map lint := by
  apply List.ext_getElem?
  intro i
  rw [List.getElem?_map, List.getElem?_map, List.getElem?_take]
  by_cases hi : i < k
  · rw [List.getElem?_range hi, if_pos hi, List.getElem?_eq_getElem (by omega : i < xs.length)]; show some (lint (xs.getD i 0)) = some (lint xs[i]); rw [List.getD_eq_getElem?_getD, List.getElem?_eq_getElem (by omega : i < xs.length)]; rfl
  · rw [List.getElem?_eq_none (by simpa using hi), if_neg hi]; rfl
theorem range_drop {xs : List Int} {k n : Nat} (h : k + n = xs.length) : (List.range n).map (fun j => lint (xs.getD (k + j) 0)) = (xs.drop k).map lint := by
  apply List.ext_getElem?
  intro i
  rw [List.getElem?_map, List.getElem?_map, List.getElem?_drop]
  by_cases hi : i < n
  · rw [List.getElem?_range hi, List.getElem?_eq_getElem (by omega : k + i < xs.length)]; show some (lint (xs.getD (k + i) 0)) = some (lint xs[k + i]); rw [List.getD_eq_getElem?_getD, List.getElem?_eq_getElem (by omega : k + i < xs.length)]; rfl
  · rw [List.getElem?_eq_none (by simpa using hi), List.getElem?_eq_none (by omega)]; rfl
theorem range_takeI {xs : List Int} {k : Nat} (h : k ≤ xs.length) : (List.range k).map (fun j => AV.iv (IV.lit (Value.int IntKind.i64 (xs.getD j 0)))) = (xs.take k).map lint := range_take h
theorem range_dropI {xs : List Int} {k n : Nat} (h : k + n = xs.length) : (List.range n).map (fun j => AV.iv (IV.lit (Value.int IntKind.i64 (xs.getD (k + j) 0)))) = (xs.drop k).map lint := range_drop h
end Go.Proofs.YtdaenbgjafalcaaDoor
