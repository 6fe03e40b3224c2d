import Derived.Test.YtghdacijcnmhlaaDoorMgAY
import Derived.Test.YtghdacijcnmhlaaDoorMgAN
import Derived.Test.YtghdacijcnmhlaaDoorMgAJ
namespace Go.Proofs.YtghdacijcnmhlaaDoor
open Go.RowKit
set_option linter.unusedVariables false
set_option linter.unusedSimpArgs false
section
variable {P : Program} {tt : TT} {m : Nat} {Q : Exit → XS → Prop} {fr : List AV} {H : AHeap} {M : MS} {l : List Oper}
theorem RI.congr {fz : Nat → Option Obj} {get get' : Nat → IV} {len sz : Nat} {v : Value} (h : RI fz (.sl get len sz) v) (he : ∀ j, j < len * sz → get j = get' j) : RI fz (.sl get' len sz) v := by
  cases h with
  | nil _ _ cap hc => exact .nil _ _ cap hc
  | empty _ _ a cap hc => exact .empty _ _ a cap hc
  | sl _ _ _ b off cap cs t fr vs h1 h2 h3 h4 h5 => exact .sl _ _ _ b off cap cs t fr vs h1 h2 (fun j hj => by rw [← he j hj]; exact h3 j hj) h4 h5
theorem RA.congr {n : Nat} {G : Gh} {get get' : Nat → IV} {len sz : Nat} {v : Value} (h : RA n G (.iv (.sl get len sz)) v) (he : ∀ j, j < len * sz → get j = get' j) : RA n G (.iv (.sl get' len sz)) v := by
  cases h with
  | iv _ _ hr => exact .iv _ _ (hr.congr he)
theorem SF.args {f : FuncId} {as1 as2 : List AV} {K : AV → AHeap → Prop} (h : SF P f as2 H K) (ha : ∀ G vs, RL H.length G as1 vs → RL H.length G as2 vs) : SF P f as1 H K :=
  ⟨h.callable, fun G w vs hi hr => h.calls G w vs hi (ha G vs hr)⟩
def intOf : AV → Int
  | .iv (.lit (.int _ x)) => x
  | _ => 0
theorem abuildSlice_at {t n : Nat} {ps : List (Nat × AV)} {x : AV} {obj : AObj} (h : abuildSlice tt [] t n ps = some (x, [some obj])) : ∃ len sz, x = .osl 0 0 len sz ∧ ∀ H, abuildSlice tt H t n ps = some (.osl H.length 0 len sz, H ++ [some obj]) := by
  unfold abuildSlice at h ⊢
  split at h
  · rename_i e _ _ _ ht
    split at h
    · rename_i r hr
      split at h
      · rename_i hc
        split at h
        · rename_i cs hcs
          split at h
          · rename_i h1
            simp only [Option.some.injEq, Prod.mk.injEq, List.nil_append, List.cons.injEq, and_true, List.length_nil] at h
            obtain ⟨rfl, rfl⟩ := h
            exact ⟨_, _, rfl, fun H => by simp only [ht, hr, if_pos hc, hcs, if_pos h1]⟩
          · cases h
        · cases h
      · cases h
    · cases h
  · cases h
theorem XRes_litF (hT : TyOK P tt) {d : Option Tmp} {t n : Nat} {ps : Array (Nat × Operand)} {ty : TypeId} {pos : String} {after : Array Edge} {g : Option (Nat × Bool)} (hw : wantedS fr ⟨d, .buildSlice t n ps, ty, pos, after, g⟩ = some true)
    {len sz : Nat} {e : TypeId} {cs : List AV} (ha : abuildSlice tt [] t n (ps.toList.map fun p => (p.1, AS.ev ⟨fr, H⟩ p.2)) = some (.osl 0 0 len sz, [some ⟨e, cs⟩])) (hz : sz ≠ 0) (hl : (cs.map intOf).length = len * sz) (hc : cs = (cs.map intOf).map lint)
    (h : XRes P m Q (l, ⟨putL fr d (.iv (iFlat (cs.map intOf) len sz)), H, M⟩)) : XRes P m Q (⟨d, .buildSlice t n ps, ty, pos, after, g⟩ :: l, ⟨fr, H, M⟩) := by
  obtain ⟨len', sz', e1, e2⟩ := abuildSlice_at ha
  cases e1
  refine XRes_lit hT (iFlat (cs.map intOf) len sz) hw (x := .osl H.length 0 len sz) (obj := ⟨e, cs⟩) (by simp only [aop]; exact e2 H) ?_ h
  exact .osl _ 0 len sz _ ⟨e, cs⟩ (fun j => lt (.int .i64 ((cs.map intOf).getD j 0))) hz (only_mk (by simp) (by simp)) (fun j hj => by rw [Nat.zero_add]; exact (congrArg (fun z : List AV => z[j]?) hc).trans (lint_at (xs := cs.map intOf) (by rw [hl]; exact hj))) fun j _ => .iv _
theorem snap_litF {H : AHeap} {e : TypeId} {cs : List AV} {len sz : Nat} (hz : sz ≠ 0) (hl : (cs.map intOf).length = len * sz) (hc : cs = (cs.map intOf).map lint) : SnapC (onlyH [H.length] (H ++ [some ⟨e, cs⟩])) (.osl H.length 0 len sz) (iFlat (cs.map intOf) len sz) :=
  .osl _ 0 len sz _ ⟨e, cs⟩ (fun j => lt (.int .i64 ((cs.map intOf).getD j 0))) hz (only_mk (by simp) (by simp)) (fun j hj => by rw [Nat.zero_add]; exact (congrArg (fun z : List AV => z[j]?) hc).trans (lint_at (xs := cs.map intOf) (by rw [hl]; exact hj))) fun j _ => .iv _
theorem ADF_litF (hT : TyOK P tt) {H0 : AHeap} {K : List AV → AHeap → Prop} {d : Option Tmp} {t n : Nat} {ps : Array (Nat × Operand)} {ty : TypeId} {pos : String} {after : Array Edge} {g : Option (Nat × Bool)} (hw : wantedS fr ⟨d, .buildSlice t n ps, ty, pos, after, g⟩ = some true)
    {len sz : Nat} {e : TypeId} {cs : List AV} (ha : abuildSlice tt [] t n (ps.toList.map fun p => (p.1, AS.ev ⟨fr, H0⟩ p.2)) = some (.osl 0 0 len sz, [some ⟨e, cs⟩])) (hz : sz ≠ 0) (hl : (cs.map intOf).length = len * sz) (hc : cs = (cs.map intOf).map lint)
    (h : ADF P H0 K (l, putL fr d (.iv (iFlat (cs.map intOf) len sz)))) : ADF P H0 K (⟨d, .buildSlice t n ps, ty, pos, after, g⟩ :: l, fr) := by
  obtain ⟨len', sz', e1, e2⟩ := abuildSlice_at ha
  cases e1
  refine ADF_lit hT (iFlat (cs.map intOf) len sz) rfl hw (fun H => ⟨.osl H.length 0 len sz, ⟨e, cs⟩, ?_, snap_litF hz hl hc⟩) h
  have e : (ps.toList.map fun p => (p.1, AS.ev ⟨fr, H⟩ p.2)) = ps.toList.map fun p => (p.1, AS.ev ⟨fr, H0⟩ p.2) := List.map_congr_left fun y _ => by obtain ⟨a, b⟩ := y; cases b <;> rfl
  simp only [aop]
  rw [e]; exact e2 H
end
end Go.Proofs.YtghdacijcnmhlaaDoor
namespace Go.Proofs.YtghdacijcnmhlaaDoor
open Go.RowKit
def rwI (c : List Int) : AV := .iv (iInts c)
theorem snapC_rwI {H : AHeap} {o : Nat} {t : TypeId} {R : List (List Int)} (h : H[o]? = some (some ⟨t, R.map rwI⟩)) : SnapC H (.osl o 0 R.length 1) (iRows R) :=
  .osl o 0 R.length 1 _ _ (fun j => rwI (R.getD j [])) (by decide) h (fun j hj => by
    rw [Nat.zero_add]; show (R.map rwI)[j]? = _
    rw [List.getElem?_map, List.getElem?_eq_getElem (by omega)]; simp only [Option.map_some, List.getD_eq_getElem?_getD, List.getElem?_eq_getElem (show j < R.length by omega), Option.getD_some]) fun j _ => .iv _
theorem rnL_rwI (r : Nat → Nat) (xs : List (List Int)) : rnL r (xs.map rwI) = xs.map rwI := rnL_iv r iInts xs
theorem idL_rwI (p : Nat → Bool) (xs : List (List Int)) : idL p (xs.map rwI) = true := idL_iv p iInts xs
theorem rwI_one (xs : List (List Int)) : (xs.map rwI).all AV.one = true := by rw [List.all_map, List.all_eq_true]; exact fun _ _ => rfl
theorem take_rwI {xs : List (List Int)} {n : Nat} (h : xs.length ≤ n) : (xs.map rwI).take n = xs.map rwI := List.take_of_length_le (by simpa using h)
theorem rwI_snoc (xs : List (List Int)) (c : List Int) : xs.map rwI ++ [.iv (iInts c)] = (xs ++ [c]).map rwI := by rw [List.map_append]; rfl
theorem rwI_snoc2 (xs : List (List Int)) (c : List Int) : xs.map rwI ++ [.iv (.sl (fun j => .lit (.int .i64 (c.getD j 0))) c.length 1)] = (xs ++ [c]).map rwI := by rw [List.map_append]; rfl
theorem rwI_at {xs : List (List Int)} {k : Nat} (h : k < xs.length) : (xs.map rwI)[k]? = some (.iv (iInts (xs.getD k []))) := by
  rw [List.getElem?_map, List.getElem?_eq_getElem h, List.getD_eq_getElem?_getD, List.getElem?_eq_getElem h]; rfl
attribute [go_sem] rnL_rwI idL_rwI rwI_one take_rwI rwI_snoc rwI_snoc2 rwI_at
section
variable {P : Program} {tt : TT} {m : Nat} {Q : Exit → XS → Prop} {fr : List AV} {H : AHeap} {M : MS} {l : List Oper}
end
end Go.Proofs.YtghdacijcnmhlaaDoor
namespace Go.Proofs.YtghdacijcnmhlaaDoor
open Go.RowKit
theorem Snap.tri {H : AHeap} {x y z x' y' z' : AV} (h : Snap H x x') (k : Snap H y y') (l : Snap H z z') : Snap H (.tup [x, y, z]) (.tup [x', y', z']) := .tup _ _ rfl fun i a b e1 e2 => by
  match i with
  | 0 => simp at e1 e2; subst e1 e2; exact h
  | 1 => simp at e1 e2; subst e1 e2; exact k
  | 2 => simp at e1 e2; subst e1 e2; exact l
  | i + 3 => simp at e1
end Go.Proofs.YtghdacijcnmhlaaDoor
namespace Go.Proofs.YtghdacijcnmhlaaDoor
open Go.RowKit
set_option linter.unusedVariables false
set_option linter.unusedSimpArgs false
section
variable {P : Program} {tt : TT} {m : Nat} {Q : Exit → XS → Prop} {fr : List AV} {H : AHeap} {M : MS} {l : List Oper} {o : Oper} {n0 : Nat} {us : List Nat} {H0 Hc : AHeap} {K : List AV → AHeap → Prop} {al : List Kd}
def kdOfL (c : Bool) (op : Op) : Kd := match op with
  | .load _ _ => .free
  | .buildSlice _ n _ => if n = 0 then .grow else .free
  | op => kdOf c op
def alL (ops : List Oper) : List Kd := ops.map fun o => kdOfL (ops.any fun o => isApp o.op) o.op
end
end Go.Proofs.YtghdacijcnmhlaaDoor
