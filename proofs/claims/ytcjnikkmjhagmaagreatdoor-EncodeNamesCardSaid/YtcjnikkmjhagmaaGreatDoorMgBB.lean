import Derived.Test.YtcjnikkmjhagmaaGreatDoorMgAV
import Derived.Test.YtcjnikkmjhagmaaGreatDoorMgAW
import Derived.Test.YtcjnikkmjhagmaaGreatDoorMgAP
import Derived.Test.YtcjnikkmjhagmaaGreatDoorMgAM
namespace Go.Proofs.YtcjnikkmjhagmaaGreatDoor
open Go.RowKit
set_option linter.unusedVariables false
theorem frz_ints {HD : AHeap} {o : Nat} {t : TypeId} {xs : List Int} {n : Nat} (h : HD[o]? = some (some ⟨t, xs.map lint⟩)) (hn : n = xs.length) : FrzV HD (.osl o 0 n 1) (.iv (iInts xs)) := by
  subst hn
  exact .iv _ _ (SnapC.lits (fun j => .int .i64 (xs.getD j 0)) h fun j hj => by rw [Nat.zero_add]; exact lint_at hj)
end Go.Proofs.YtcjnikkmjhagmaaGreatDoor
namespace Go.Proofs.YtcjnikkmjhagmaaGreatDoor
open Go.RowKit
set_option linter.unusedVariables false
set_option linter.unusedSimpArgs false
section
variable {P : Program} {tt : TT} {m : Nat} {Q : Exit → XS → Prop} {fr : List AV} {H : AHeap} {M : MS} {l : List Oper}
theorem RI.congr {fz : Nat → Option Obj} {get get' : Nat → IV} {len sz : Nat} {v : Value} (h : RI fz (.sl get len sz) v) (he : ∀ j, j < len * sz → get j = get' j) : RI fz (.sl get' len sz) v := by
  cases h with
  | nil _ _ cap hc => exact .nil _ _ cap hc
  | empty _ _ a cap hc => exact .empty _ _ a cap hc
  | sl _ _ _ b off cap cs t fr vs h1 h2 h3 h4 h5 => exact .sl _ _ _ b off cap cs t fr vs h1 h2 (fun j hj => by rw [← he j hj]; exact h3 j hj) h4 h5
theorem RA.congr {n : Nat} {G : Gh} {get get' : Nat → IV} {len sz : Nat} {v : Value} (h : RA n G (.iv (.sl get len sz)) v) (he : ∀ j, j < len * sz → get j = get' j) : RA n G (.iv (.sl get' len sz)) v := by
  cases h with
  | iv _ _ hr => exact .iv _ _ (hr.congr he)
theorem SF.args {f : FuncId} {as1 as2 : List AV} {K : AV → AHeap → Prop} (h : SF P f as2 H K) (ha : ∀ G vs, RL H.length G as1 vs → RL H.length G as2 vs) : SF P f as1 H K :=
  ⟨h.callable, fun G w vs hi hr => h.calls G w vs hi (ha G vs hr)⟩
theorem ra_nil {n : Nat} {G : Gh} {v : Value} {get : Nat → IV} {sz : Nat} (h : RA n G (lt (.slice none 0 0)) v) : RA n G (.iv (.sl get 0 sz)) v := by
  have := h.lit_inv; subst this; exact .iv _ _ (.nil _ _ 0 (Nat.zero_le _))
theorem rl_nil2 {n : Nat} {G : Gh} {x : AV} {get : Nat → IV} {sz : Nat} {vs : List Value} (h : RL n G [x, lt (.slice none 0 0)] vs) : RL n G [x, .iv (.sl get 0 sz)] vs := by
  obtain ⟨v, us, rfl, h1, h2⟩ := h.uncons
  obtain ⟨v2, us2, rfl, h3, h4⟩ := h2.uncons
  exact RL.cons h1 (RL.cons (ra_nil h3) h4)
def intOf : AV → Int
  | .iv (.lit (.int _ x)) => x
  | _ => 0
theorem abuildSlice_at {t n : Nat} {ps : List (Nat × AV)} {x : AV} {obj : AObj} (h : abuildSlice tt [] t n ps = some (x, [some obj])) : ∃ len sz, x = .osl 0 0 len sz ∧ ∀ H, abuildSlice tt H t n ps = some (.osl H.length 0 len sz, H ++ [some obj]) := by
  unfold abuildSlice at h ⊢
  split at h
  · rename_i e _ _ _ ht
    split at h
    · rename_i r hr
      split at h
      · rename_i hc
        split at h
        · rename_i cs hcs
          split at h
          · rename_i h1
            simp only [Option.some.injEq, Prod.mk.injEq, List.nil_append, List.cons.injEq, and_true, List.length_nil] at h
            obtain ⟨rfl, rfl⟩ := h
            exact ⟨_, _, rfl, fun H => by simp only [ht, hr, if_pos hc, hcs, if_pos h1]⟩
          · cases h
        · cases h
      · cases h
    · cases h
  · cases h
theorem XRes_litF (hT : TyOK P tt) {d : Option Tmp} {t n : Nat} {ps : Array (Nat × Operand)} {ty : TypeId} {pos : String} {after : Array Edge} {g : Option (Nat × Bool)} (hw : wantedS fr ⟨d, .buildSlice t n ps, ty, pos, after, g⟩ = some true)
    {len sz : Nat} {e : TypeId} {cs : List AV} (ha : abuildSlice tt [] t n (ps.toList.map fun p => (p.1, AS.ev ⟨fr, H⟩ p.2)) = some (.osl 0 0 len sz, [some ⟨e, cs⟩])) (hz : sz ≠ 0) (hl : (cs.map intOf).length = len * sz) (hc : cs = (cs.map intOf).map lint)
    (h : XRes P m Q (l, ⟨putL fr d (.iv (iFlat (cs.map intOf) len sz)), H, M⟩)) : XRes P m Q (⟨d, .buildSlice t n ps, ty, pos, after, g⟩ :: l, ⟨fr, H, M⟩) := by
  obtain ⟨len', sz', e1, e2⟩ := abuildSlice_at ha
  cases e1
  refine XRes_lit hT (iFlat (cs.map intOf) len sz) hw (x := .osl H.length 0 len sz) (obj := ⟨e, cs⟩) (by simp only [aop]; exact e2 H) ?_ h
  exact .osl _ 0 len sz _ ⟨e, cs⟩ (fun j => lt (.int .i64 ((cs.map intOf).getD j 0))) hz (only_mk (by simp) (by simp)) (fun j hj => by rw [Nat.zero_add]; exact (congrArg (fun z : List AV => z[j]?) hc).trans (lint_at (xs := cs.map intOf) (by rw [hl]; exact hj))) fun j _ => .iv _
theorem snap_litF {H : AHeap} {e : TypeId} {cs : List AV} {len sz : Nat} (hz : sz ≠ 0) (hl : (cs.map intOf).length = len * sz) (hc : cs = (cs.map intOf).map lint) : SnapC (onlyH [H.length] (H ++ [some ⟨e, cs⟩])) (.osl H.length 0 len sz) (iFlat (cs.map intOf) len sz) :=
  .osl _ 0 len sz _ ⟨e, cs⟩ (fun j => lt (.int .i64 ((cs.map intOf).getD j 0))) hz (only_mk (by simp) (by simp)) (fun j hj => by rw [Nat.zero_add]; exact (congrArg (fun z : List AV => z[j]?) hc).trans (lint_at (xs := cs.map intOf) (by rw [hl]; exact hj))) fun j _ => .iv _
theorem XRes_eqB {t n : Nat} {op : BinOp} {x y : Operand} {d : Option Tmp} {t2 ty : TypeId} {pos : String} {after : Array Edge} {g : Option (Nat × Bool)} {us vs2 : List Int} (b : Bool) (hw : wantedS fr ⟨d, .binOp op t x y t2, ty, pos, after, g⟩ = some true) (hop : op = .eql ∨ op = .neq) (hx : AS.ev ⟨fr, H⟩ x = .agg (us.map fun a => lt (.int .i64 a))) (hy : AS.ev ⟨fr, H⟩ y = .agg (vs2.map fun a => lt (.int .i64 a))) (h1 : us.length = n) (h2 : vs2.length = n) (h : eqOK P t n = true) (hb : eqRes op (us == vs2) = b)
    (k : XRes P m Q (l, ⟨putL fr d (lt (.bool b)), H, M⟩)) : XRes P m Q (⟨d, .binOp op t x y t2, ty, pos, after, g⟩ :: l, ⟨fr, H, M⟩) := XRes_eqA hw hop hx hy h1 h2 h (by rw [hb]; exact k)
end
end Go.Proofs.YtcjnikkmjhagmaaGreatDoor
namespace Go.Proofs.YtcjnikkmjhagmaaGreatDoor
open Go.RowKit
set_option linter.unusedVariables false
set_option linter.unusedSimpArgs false
section
variable {P : Program} {tt : TT} {m : Nat} {Q : Exit → XS → Prop} {fr : List AV} {H : AHeap} {M : MS} {l : List Oper} {o : Oper} {n0 : Nat} {us : List Nat} {H0 Hc : AHeap} {K : List AV → AHeap → Prop} {al : List Kd}
theorem ADR_litI (hT : TyOK P tt) (y : IV) (hw : wantedS fr o = some true) (ha : ∀ H, ∃ x obj, aop tt ⟨fr, H⟩ o = some (x, H ++ [some obj]) ∧ SnapC (onlyH [H.length] (H ++ [some obj])) x y) (h : ADR P n0 us H0 K Hc (l, al, putL fr o.dst (.iv y))) : ADR P n0 us H0 K Hc (o :: l, .free :: al, fr) := fun n hn =>
  ⟨.iv y, Hc, none, .free _ (wanted_iff hn hw) fun H => by
    obtain ⟨x, obj, h1, h2⟩ := ha H
    exact does_lit hT h1 h2, h n (by show (putL _ _ _).length ≤ n; rw [putL_len]; exact hn)⟩
theorem ADR_litF (hT : TyOK P tt) {d : Option Tmp} {t n : Nat} {ps : Array (Nat × Operand)} {ty : TypeId} {pos : String} {after : Array Edge} {g : Option (Nat × Bool)} (hw : wantedS fr ⟨d, .buildSlice t n ps, ty, pos, after, g⟩ = some true)
    {len sz : Nat} {e : TypeId} {cs : List AV} (ha : abuildSlice tt [] t n (ps.toList.map fun p => (p.1, AS.ev ⟨fr, H0⟩ p.2)) = some (.osl 0 0 len sz, [some ⟨e, cs⟩])) (hz : sz ≠ 0) (hl : (cs.map intOf).length = len * sz) (hc : cs = (cs.map intOf).map lint)
    (h : ADR P n0 us H0 K Hc (l, al, putL fr d (.iv (iFlat (cs.map intOf) len sz)))) : ADR P n0 us H0 K Hc (⟨d, .buildSlice t n ps, ty, pos, after, g⟩ :: l, .free :: al, fr) := by
  obtain ⟨len', sz', e1, e2⟩ := abuildSlice_at ha
  cases e1
  refine ADR_litI hT (iFlat (cs.map intOf) len sz) hw (fun H => ⟨.osl H.length 0 len sz, ⟨e, cs⟩, ?_, snap_litF hz hl hc⟩) h
  have e : (ps.toList.map fun p => (p.1, AS.ev ⟨fr, H⟩ p.2)) = ps.toList.map fun p => (p.1, AS.ev ⟨fr, H0⟩ p.2) := List.map_congr_left fun y _ => by obtain ⟨a, b⟩ := y; cases b <;> rfl
  simp only [aop]
  rw [e]; exact e2 H
theorem ADR_empty (hT : TyOK P tt) {d : Option Tmp} {t : Nat} {ty : TypeId} {pos : String} {after : Array Edge} {g : Option (Nat × Bool)} (hw : wantedS fr ⟨d, .buildSlice t 0 #[], ty, pos, after, g⟩ = some true)
    (sz : Nat) (e : TypeId) (ha : abuildSlice tt [] t 0 [] = some (.osl 0 0 0 sz, [some ⟨e, []⟩])) (h : ADR P n0 us H0 K (Hc ++ [some ⟨e, []⟩]) (l, al, putL fr d (.osl Hc.length 0 0 sz))) : ADR P n0 us H0 K Hc (⟨d, .buildSlice t 0 #[], ty, pos, after, g⟩ :: l, .grow :: al, fr) := by
  obtain ⟨len', sz', e1, e2⟩ := abuildSlice_at ha
  cases e1
  refine ADR_grow1 hT hw (x := .osl Hc.length 0 0 sz) (new := [some ⟨e, []⟩]) (fun H hl => ?_) h
  simp only [aop]
  rw [← hl]
  exact e2 H
def kdOfL (c : Bool) (op : Op) : Kd := match op with
  | .load _ _ => .free
  | .buildSlice _ n _ => if n = 0 then .grow else .free
  | op => kdOf c op
def alL (ops : List Oper) : List Kd := ops.map fun o => kdOfL (ops.any fun o => isApp o.op) o.op
theorem AX_drawL (hT : TyOK P tt) (hmx : P.follows .mixedOrders = true) {id : Nat} {ops : List Oper} (hord : ordOK ops.toArray ops.length (alL ops) = true)
    (h : ∀ (K : List AV → AHeap → Prop), (∀ F H', Q .normal ⟨F, H', M⟩ → K F H') → ADR P H.length [] H K H (ops.map (strip (dsts ops)), alL ops, fr)) : AX P m (.region id ops.toArray true) Q ⟨fr, H, M⟩ :=
  AX_drawS hT hmx (alL ops) ops.length 0 hord fun K hK => by
    rw [List.take_length]
    exact h K fun F H' hq => hK F H' (by rw [List.drop_length]; exact XRes_nil hq)
end
theorem rep_lintI (n : Nat) : List.replicate n (AV.iv (IV.lit (Value.int IntKind.i64 0))) = (List.replicate n (0 : Int)).map lint := by rw [List.map_replicate]; rfl
end Go.Proofs.YtcjnikkmjhagmaaGreatDoor
