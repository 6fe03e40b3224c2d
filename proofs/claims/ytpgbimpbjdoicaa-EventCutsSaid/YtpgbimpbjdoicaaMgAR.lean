import Derived.Test.YtpgbimpbjdoicaaMgAN
import Derived.Test.YtpgbimpbjdoicaaMgAL
import Derived.Test.YtpgbimpbjdoicaaMgAM
namespace Go.Proofs.Ytpgbimpbjdoicaa
open Go.RowKit
set_option linter.unusedVariables false
set_option linter.unusedSimpArgs false
section
variable {P : Program} {tt : TT} {m : Nat} {Q : Exit → XS → Prop} {fr : List AV} {H : AHeap} {M : MS} {l : List Oper}
theorem RI.congr {fz : Nat → Option Obj} {get get' : Nat → IV} {len sz : Nat} {v : Value} (h : RI fz (.sl get len sz) v) (he : ∀ j, j < len * sz → get j = get' j) : RI fz (.sl get' len sz) v := by
  cases h with
  | nil _ _ cap hc => exact .nil _ _ cap hc
  | empty _ _ a cap hc => exact .empty _ _ a cap hc
  | sl _ _ _ b off cap cs t fr vs h1 h2 h3 h4 h5 => exact .sl _ _ _ b off cap cs t fr vs h1 h2 (fun j hj => by rw [← he j hj]; exact h3 j hj) h4 h5
theorem RA.congr {n : Nat} {G : Gh} {get get' : Nat → IV} {len sz : Nat} {v : Value} (h : RA n G (.iv (.sl get len sz)) v) (he : ∀ j, j < len * sz → get j = get' j) : RA n G (.iv (.sl get' len sz)) v := by
  cases h with
  | iv _ _ hr => exact .iv _ _ (hr.congr he)
theorem SF.args {f : FuncId} {as1 as2 : List AV} {K : AV → AHeap → Prop} (h : SF P f as2 H K) (ha : ∀ G vs, RL H.length G as1 vs → RL H.length G as2 vs) : SF P f as1 H K :=
  ⟨h.callable, fun G w vs hi hr => h.calls G w vs hi (ha G vs hr)⟩
theorem ra_nil {n : Nat} {G : Gh} {v : Value} {get : Nat → IV} {sz : Nat} (h : RA n G (lt (.slice none 0 0)) v) : RA n G (.iv (.sl get 0 sz)) v := by
  have := h.lit_inv; subst this; exact .iv _ _ (.nil _ _ 0 (Nat.zero_le _))
theorem rl_nil2 {n : Nat} {G : Gh} {x : AV} {get : Nat → IV} {sz : Nat} {vs : List Value} (h : RL n G [x, lt (.slice none 0 0)] vs) : RL n G [x, .iv (.sl get 0 sz)] vs := by
  obtain ⟨v, us, rfl, h1, h2⟩ := h.uncons
  obtain ⟨v2, us2, rfl, h3, h4⟩ := h2.uncons
  exact RL.cons h1 (RL.cons (ra_nil h3) h4)
theorem PF.vb {f : FuncId} {args : List AV} {b : Bool} (h : PF P f args fun r H' => r = lt (.bool b) ∧ H' = []) {c : Bool} (hb : b = c) : PF P f args fun r H' => r = lt (.bool c) ∧ H' = [] := by rw [← hb]; exact h
def intOf : AV → Int
  | .iv (.lit (.int _ x)) => x
  | _ => 0
theorem abuildSlice_at {t n : Nat} {ps : List (Nat × AV)} {x : AV} {obj : AObj} (h : abuildSlice tt [] t n ps = some (x, [some obj])) : ∃ len sz, x = .osl 0 0 len sz ∧ ∀ H, abuildSlice tt H t n ps = some (.osl H.length 0 len sz, H ++ [some obj]) := by
  unfold abuildSlice at h ⊢
  split at h
  · rename_i e _ _ _ ht
    split at h
    · rename_i r hr
      split at h
      · rename_i hc
        split at h
        · rename_i cs hcs
          split at h
          · rename_i h1
            simp only [Option.some.injEq, Prod.mk.injEq, List.nil_append, List.cons.injEq, and_true, List.length_nil] at h
            obtain ⟨rfl, rfl⟩ := h
            exact ⟨_, _, rfl, fun H => by simp only [ht, hr, if_pos hc, hcs, if_pos h1]⟩
          · cases h
        · cases h
      · cases h
    · cases h
  · cases h
theorem XRes_litF (hT : TyOK P tt) {d : Option Tmp} {t n : Nat} {ps : Array (Nat × Operand)} {ty : TypeId} {pos : String} {after : Array Edge} {g : Option (Nat × Bool)} (hw : wantedS fr ⟨d, .buildSlice t n ps, ty, pos, after, g⟩ = some true)
    {len sz : Nat} {e : TypeId} {cs : List AV} (ha : abuildSlice tt [] t n (ps.toList.map fun p => (p.1, AS.ev ⟨fr, H⟩ p.2)) = some (.osl 0 0 len sz, [some ⟨e, cs⟩])) (hz : sz ≠ 0) (hl : (cs.map intOf).length = len * sz) (hc : cs = (cs.map intOf).map lint)
    (h : XRes P m Q (l, ⟨putL fr d (.iv (iFlat (cs.map intOf) len sz)), H, M⟩)) : XRes P m Q (⟨d, .buildSlice t n ps, ty, pos, after, g⟩ :: l, ⟨fr, H, M⟩) := by
  obtain ⟨len', sz', e1, e2⟩ := abuildSlice_at ha
  cases e1
  refine XRes_lit hT (iFlat (cs.map intOf) len sz) hw (x := .osl H.length 0 len sz) (obj := ⟨e, cs⟩) (by simp only [aop]; exact e2 H) ?_ h
  exact .osl _ 0 len sz _ ⟨e, cs⟩ (fun j => lt (.int .i64 ((cs.map intOf).getD j 0))) hz (only_mk (by simp) (by simp)) (fun j hj => by rw [Nat.zero_add]; exact (congrArg (fun z : List AV => z[j]?) hc).trans (lint_at (xs := cs.map intOf) (by rw [hl]; exact hj))) fun j _ => .iv _
theorem snap_litF {H : AHeap} {e : TypeId} {cs : List AV} {len sz : Nat} (hz : sz ≠ 0) (hl : (cs.map intOf).length = len * sz) (hc : cs = (cs.map intOf).map lint) : SnapC (onlyH [H.length] (H ++ [some ⟨e, cs⟩])) (.osl H.length 0 len sz) (iFlat (cs.map intOf) len sz) :=
  .osl _ 0 len sz _ ⟨e, cs⟩ (fun j => lt (.int .i64 ((cs.map intOf).getD j 0))) hz (only_mk (by simp) (by simp)) (fun j hj => by rw [Nat.zero_add]; exact (congrArg (fun z : List AV => z[j]?) hc).trans (lint_at (xs := cs.map intOf) (by rw [hl]; exact hj))) fun j _ => .iv _
theorem ADF_litF (hT : TyOK P tt) {H0 : AHeap} {K : List AV → AHeap → Prop} {d : Option Tmp} {t n : Nat} {ps : Array (Nat × Operand)} {ty : TypeId} {pos : String} {after : Array Edge} {g : Option (Nat × Bool)} (hw : wantedS fr ⟨d, .buildSlice t n ps, ty, pos, after, g⟩ = some true)
    {len sz : Nat} {e : TypeId} {cs : List AV} (ha : abuildSlice tt [] t n (ps.toList.map fun p => (p.1, AS.ev ⟨fr, H0⟩ p.2)) = some (.osl 0 0 len sz, [some ⟨e, cs⟩])) (hz : sz ≠ 0) (hl : (cs.map intOf).length = len * sz) (hc : cs = (cs.map intOf).map lint)
    (h : ADF P H0 K (l, putL fr d (.iv (iFlat (cs.map intOf) len sz)))) : ADF P H0 K (⟨d, .buildSlice t n ps, ty, pos, after, g⟩ :: l, fr) := by
  obtain ⟨len', sz', e1, e2⟩ := abuildSlice_at ha
  cases e1
  refine ADF_lit hT (iFlat (cs.map intOf) len sz) rfl hw (fun H => ⟨.osl H.length 0 len sz, ⟨e, cs⟩, ?_, snap_litF hz hl hc⟩) h
  have e : (ps.toList.map fun p => (p.1, AS.ev ⟨fr, H⟩ p.2)) = ps.toList.map fun p => (p.1, AS.ev ⟨fr, H0⟩ p.2) := List.map_congr_left fun y _ => by obtain ⟨a, b⟩ := y; cases b <;> rfl
  simp only [aop]
  rw [e]; exact e2 H
theorem XRes_eqB {t n : Nat} {op : BinOp} {x y : Operand} {d : Option Tmp} {t2 ty : TypeId} {pos : String} {after : Array Edge} {g : Option (Nat × Bool)} {us vs2 : List Int} (b : Bool) (hw : wantedS fr ⟨d, .binOp op t x y t2, ty, pos, after, g⟩ = some true) (hop : op = .eql ∨ op = .neq) (hx : AS.ev ⟨fr, H⟩ x = .agg (us.map fun a => lt (.int .i64 a))) (hy : AS.ev ⟨fr, H⟩ y = .agg (vs2.map fun a => lt (.int .i64 a))) (h1 : us.length = n) (h2 : vs2.length = n) (h : eqOK P t n = true) (hb : eqRes op (us == vs2) = b)
    (k : XRes P m Q (l, ⟨putL fr d (lt (.bool b)), H, M⟩)) : XRes P m Q (⟨d, .binOp op t x y t2, ty, pos, after, g⟩ :: l, ⟨fr, H, M⟩) := XRes_eqA hw hop hx hy h1 h2 h (by rw [hb]; exact k)
theorem ADF_eqB {H0 : AHeap} {K : List AV → AHeap → Prop} {t n : Nat} {op : BinOp} {x y : Operand} {d : Option Tmp} {t2 ty : TypeId} {pos : String} {after : Array Edge} {g : Option (Nat × Bool)} {us vs2 : List Int} (b : Bool) (hw : wantedS fr ⟨d, .binOp op t x y t2, ty, pos, after, g⟩ = some true) (hop : op = .eql ∨ op = .neq) (hx : AS.ev ⟨fr, H0⟩ x = .agg (us.map fun a => lt (.int .i64 a))) (hy : AS.ev ⟨fr, H0⟩ y = .agg (vs2.map fun a => lt (.int .i64 a))) (h1 : us.length = n) (h2 : vs2.length = n) (h : eqOK P t n = true) (hb : eqRes op (us == vs2) = b)
    (k : ADF P H0 K (l, putL fr d (lt (.bool b)))) : ADF P H0 K (⟨d, .binOp op t x y t2, ty, pos, after, g⟩ :: l, fr) := ADF_eqA hw hop hx hy h1 h2 h (by rw [hb]; exact k)
end
end Go.Proofs.Ytpgbimpbjdoicaa
namespace Go.Proofs.Ytpgbimpbjdoicaa
open Go.RowKit
set_option linter.unusedVariables false
set_option linter.unusedSimpArgs false
section
variable {P : Program} {tt : TT} {m : Nat} {Q : Exit → XS → Prop} {fr : List AV} {H : AHeap} {M : MS} {l : List Oper} {o : Oper} {n0 : Nat} {us : List Nat} {H0 Hc : AHeap} {K : List AV → AHeap → Prop} {al : List Kd}
theorem ADR_free0 (hT : TyOK P tt) (hr : roOp o.op = true) (hw : wantedS fr o = some true) (h : match aop tt ⟨fr, []⟩ o with | some (x, _) => ADR P n0 us H0 K Hc (l, al, putL fr o.dst x) | none => False) : ADR P n0 us H0 K Hc (o :: l, .free :: al, fr) := fun n hn => by
  cases hx : aop tt ⟨fr, []⟩ o with
  | none => rw [hx] at h; exact h.elim
  | some p =>
    obtain ⟨x, H'⟩ := p
    rw [hx] at h
    have := aop_ro hr hx
    subst this
    exact ⟨x, Hc, none, .free x (wanted_iff hn hw) fun H => does_aop hT (aop_mono (H0 := []) ⟨Nat.zero_le _, fun o x e => by simp at e⟩ hr hx), h n (by show (putL _ _ _).length ≤ n; rw [putL_len]; exact hn)⟩
def kdOf2 (c : Bool) (op : Op) : Kd := match op with
  | .load _ _ => .free
  | op => kdOf c op
def alD2 (ops : List Oper) : List Kd := ops.map fun o => kdOf2 (ops.any fun o => isApp o.op) o.op
theorem AX_drawB (hT : TyOK P tt) (hmx : P.follows .mixedOrders = true) {id : Nat} {ops : List Oper} (hord : ordOK ops.toArray ops.length (alD2 ops) = true)
    (h : ∀ (K : List AV → AHeap → Prop), (∀ F H', Q .normal ⟨F, H', M⟩ → K F H') → ADR P H.length [] H K H (ops.map (strip (dsts ops)), alD2 ops, fr)) : AX P m (.region id ops.toArray true) Q ⟨fr, H, M⟩ :=
  AX_drawS hT hmx (alD2 ops) ops.length 0 hord fun K hK => by
    rw [List.take_length]
    exact h K fun F H' hq => hK F H' (by rw [List.drop_length]; exact XRes_nil hq)
end
end Go.Proofs.Ytpgbimpbjdoicaa
namespace Go.Proofs.Ytpgbimpbjdoicaa
open Go.RowKit
set_option linter.unusedVariables false
set_option linter.unusedSimpArgs false
section
variable {P : Program} {tt : TT} {m : Nat} {Q : Exit → XS → Prop} {fr : List AV} {H : AHeap} {M : MS} {l : List Oper} {o : Oper} {n0 : Nat} {us : List Nat} {H0 Hc : AHeap} {K : List AV → AHeap → Prop} {al : List Kd}
theorem ADR_litI (hT : TyOK P tt) (y : IV) (hw : wantedS fr o = some true) (ha : ∀ H, ∃ x obj, aop tt ⟨fr, H⟩ o = some (x, H ++ [some obj]) ∧ SnapC (onlyH [H.length] (H ++ [some obj])) x y) (h : ADR P n0 us H0 K Hc (l, al, putL fr o.dst (.iv y))) : ADR P n0 us H0 K Hc (o :: l, .free :: al, fr) := fun n hn =>
  ⟨.iv y, Hc, none, .free _ (wanted_iff hn hw) fun H => by
    obtain ⟨x, obj, h1, h2⟩ := ha H
    exact does_lit hT h1 h2, h n (by show (putL _ _ _).length ≤ n; rw [putL_len]; exact hn)⟩
theorem ADR_litF (hT : TyOK P tt) {d : Option Tmp} {t n : Nat} {ps : Array (Nat × Operand)} {ty : TypeId} {pos : String} {after : Array Edge} {g : Option (Nat × Bool)} (hw : wantedS fr ⟨d, .buildSlice t n ps, ty, pos, after, g⟩ = some true)
    {len sz : Nat} {e : TypeId} {cs : List AV} (ha : abuildSlice tt [] t n (ps.toList.map fun p => (p.1, AS.ev ⟨fr, H0⟩ p.2)) = some (.osl 0 0 len sz, [some ⟨e, cs⟩])) (hz : sz ≠ 0) (hl : (cs.map intOf).length = len * sz) (hc : cs = (cs.map intOf).map lint)
    (h : ADR P n0 us H0 K Hc (l, al, putL fr d (.iv (iFlat (cs.map intOf) len sz)))) : ADR P n0 us H0 K Hc (⟨d, .buildSlice t n ps, ty, pos, after, g⟩ :: l, .free :: al, fr) := by
  obtain ⟨len', sz', e1, e2⟩ := abuildSlice_at ha
  cases e1
  refine ADR_litI hT (iFlat (cs.map intOf) len sz) hw (fun H => ⟨.osl H.length 0 len sz, ⟨e, cs⟩, ?_, snap_litF hz hl hc⟩) h
  have e : (ps.toList.map fun p => (p.1, AS.ev ⟨fr, H⟩ p.2)) = ps.toList.map fun p => (p.1, AS.ev ⟨fr, H0⟩ p.2) := List.map_congr_left fun y _ => by obtain ⟨a, b⟩ := y; cases b <;> rfl
  simp only [aop]
  rw [e]; exact e2 H
/-- An empty literal, to be appended to. -/
theorem ADR_empty (hT : TyOK P tt) {d : Option Tmp} {t : Nat} {ty : TypeId} {pos : String} {after : Array Edge} {g : Option (Nat × Bool)} (hw : wantedS fr ⟨d, .buildSlice t 0 #[], ty, pos, after, g⟩ = some true)
    (sz : Nat) (e : TypeId) (ha : abuildSlice tt [] t 0 [] = some (.osl 0 0 0 sz, [some ⟨e, []⟩])) (h : ADR P n0 us H0 K (Hc ++ [some ⟨e, []⟩]) (l, al, putL fr d (.osl Hc.length 0 0 sz))) : ADR P n0 us H0 K Hc (⟨d, .buildSlice t 0 #[], ty, pos, after, g⟩ :: l, .grow :: al, fr) := by
  obtain ⟨len', sz', e1, e2⟩ := abuildSlice_at ha
  cases e1
  refine ADR_grow1 hT hw (x := .osl Hc.length 0 0 sz) (new := [some ⟨e, []⟩]) (fun H hl => ?_) h
  simp only [aop]
  rw [← hl]
  exact e2 H
def kdOfL (c : Bool) (op : Op) : Kd := match op with
  | .load _ _ => .free
  | .buildSlice _ n _ => if n = 0 then .grow else .free
  | op => kdOf c op
def alL (ops : List Oper) : List Kd := ops.map fun o => kdOfL (ops.any fun o => isApp o.op) o.op
theorem AX_drawL (hT : TyOK P tt) (hmx : P.follows .mixedOrders = true) {id : Nat} {ops : List Oper} (hord : ordOK ops.toArray ops.length (alL ops) = true)
    (h : ∀ (K : List AV → AHeap → Prop), (∀ F H', Q .normal ⟨F, H', M⟩ → K F H') → ADR P H.length [] H K H (ops.map (strip (dsts ops)), alL ops, fr)) : AX P m (.region id ops.toArray true) Q ⟨fr, H, M⟩ :=
  AX_drawS hT hmx (alL ops) ops.length 0 hord fun K hK => by
    rw [List.take_length]
    exact h K fun F H' hq => hK F H' (by rw [List.drop_length]; exact XRes_nil hq)
theorem ADX_turnA {K : List AV → MS → Prop} {P : Program} {o : Oper} {i b k k' : Nat} {F F' : MC} {v : Value} {x : AV} (hx : ∀ G : Gh, RA H.length G x v) (hM : M[i]? = some (b, k, F)) (hw : wantedS fr o = some true)
    (hrun : ∀ (n : Nat) (a : Act) (w : World) G, Looks (idB n) o H.length G fr a → IMap w b k F → ∃ w', ((execOp a.eval o).run P w = .ok (.value v) w' ∨ ((execOp a.eval o).run P w = .ok .skip w' ∧ v = undef)) ∧ IMap w' b k' F' ∧ w.grownBy w' (some b))
    (h : ADX P m H K (l, al, putL fr o.dst x, M.set i (b, k', F'))) : ADX P m H K (o :: l, .grow :: al, fr, M) := fun n hn G0 => by
  refine ⟨x, M.set i (b, k', F'), .turn _ (wanted_iff hn hw) fun Q G a w K' hl hMM hi hlk hk => ?_, h n (by show (putL _ _ _).length ≤ n; rw [putL_len]; exact hn) G0⟩
  obtain ⟨c1, c2, c3, ob0, c4⟩ := hMM.at hi hM
  obtain ⟨w', r1, r2, r3⟩ := hrun n a w G hlk c3
  obtain ⟨ob, o1, o2⟩ := r2.at
  have hlt : i < M.length := (List.getElem?_eq_some_iff.1 hM).1
  have hfin := hk (fun c => if c = b then some ob else G.kp c) v w' (leb_block hl ob c1 c2) ⟨fun e he => by
    obtain ⟨j, hj⟩ := List.mem_iff_getElem?.1 he
    by_cases hji : i = j
    · subst hji
      rw [List.getElem?_set_self hlt] at hj; cases hj
      exact ⟨c1, c2, ob, if_pos rfl, o2⟩
    · rw [List.getElem?_set_ne hji] at hj
      obtain ⟨h1, h2, ob', h3, h4⟩ := hMM.one e (List.mem_iff_getElem?.2 ⟨j, hj⟩)
      have hne : e.1 ≠ b := fun heq => by
        have ht := List.pairwise_iff_getElem.1 hMM.two
        obtain ⟨l1, e1⟩ := List.getElem?_eq_some_iff.1 hM
        obtain ⟨l2, e2⟩ := List.getElem?_eq_some_iff.1 hj
        rcases Nat.lt_or_gt_of_ne hji with h5 | h5
        · have := ht i j l1 l2 h5; rw [e1, e2] at this; exact this heq.symm
        · have := ht j i l2 l1 h5; rw [e1, e2] at this; exact this heq
      exact ⟨h1, h2, ob', by show (if e.1 = b then _ else _) = _; rw [if_neg hne]; exact h3, h4⟩, by
    refine List.pairwise_iff_getElem.2 fun p q hp hq hpq => ?_
    have ht := List.pairwise_iff_getElem.1 hMM.two
    have e1 : ∀ (p : Nat) (hp : p < (M.set i (b, k', F')).length), ((M.set i (b, k', F'))[p]).1 = (M[p]'(by simpa using hp)).1 := fun p hp => by
      rw [List.getElem_set]
      split
      · rename_i hh; subst hh
        obtain ⟨l1, e1⟩ := List.getElem?_eq_some_iff.1 hM
        rw [e1]
      · rfl
    show ((M.set i (b, k', F'))[p]).1 ≠ ((M.set i (b, k', F'))[q]).1
    rw [e1, e1]
    exact ht p q (by simpa using hp) (by simpa using hq) hpq⟩ (hi.block_set c2 (obj_ne hi c4) o1 r3) (hx _)
  unfold Oper.wp
  rcases r1 with r1 | ⟨r1, rfl⟩
  · rw [r1]; exact hfin
  · rw [r1]; exact hfin
theorem ADX_mlook {K : List AV → MS → Prop} {t e : TypeId} {d : Option Tmp} {ty : TypeId} {pos : String} {after : Array Edge} {g : Option (Nat × Bool)} {mo x : Operand} {z : Value} (hw : wantedS fr ⟨d, .lookup t mo x true, ty, pos, after, g⟩ = some true) (ht : Try.prog.underlying t = some (.map 3 e)) (hz : ∀ w, (zeroValue e).run Try.prog w = .ok z w) (hzR : (mapR z).isSome = true) {i b n : Nat} {F : MC} (hm : AS.ev ⟨fr, H⟩ mo = lt (.map (some b))) (hM : M[i]? = some (b, n, F))
    {k : Int} (hx : AS.ev ⟨fr, H⟩ x = lt (.int .i64 k)) (k1 : -9223372036854775808 ≤ k ∧ k ≤ 9223372036854775807)
    (h : ADX Try.prog m H K (l, al, putL fr d (.tup [lt ((F k).getD z), lt (.bool (F k).isSome)]), M.set i (b, n, F))) : ADX Try.prog m H K (⟨d, .lookup t mo x true, ty, pos, after, g⟩ :: l, .grow :: al, fr, M) :=
  ADX_turnA (v := .tuple #[(F k).getD z, .bool (F k).isSome]) (fun G => .tup [_, _] [_, _] rfl (RL.cons (.iv _ _ (.lit _)) (RL.cons (.iv _ _ (.lit _)) (RL.nil _ _))).2) hM hw (fun N a w G hl hown =>
    ⟨w, .inl (by simp [execOp, looks_lit hl (x := mo) (by simp [Op.operands]) hm, looks_lit hl (x := x) (by simp [Op.operands]) hx, hown.look ht (hz w) hzR k1.1 k1.2, Result.andThen]), hown, World.grownBy.refl _ _⟩) h
end
theorem lint_app (xs ys : List Int) : xs.map lint ++ ys.map lint = (xs ++ ys).map lint := List.map_append.symm
theorem range_take {xs : List Int} {k : Nat} (h : k ≤ xs.length) : (List.range k).map (fun j => lint (xs.getD j 0)) = (xs.take k).map lint := by
  apply List.ext_getElem?
  intro i
  rw [List.getElem?_map, List.getElem?_map, List.getElem?_take]
  by_cases hi : i < k
  · rw [List.getElem?_range hi, if_pos hi, List.getElem?_eq_getElem (by omega : i < xs.length)]; show some (lint (xs.getD i 0)) = some (lint xs[i]); rw [List.getD_eq_getElem?_getD, List.getElem?_eq_getElem (by omega : i < xs.length)]; rfl
  · rw [List.getElem?_eq_none (by simpa using hi), if_neg hi]; rfl
theorem range_drop {xs : List Int} {k n : Nat} (h : k + n = xs.length) : (List.range n).map (fun j => lint (xs.getD (k + j) 0)) = (xs.drop k).map lint := by
  apply List.ext_getElem?
  intro i
  rw [List.getElem?_map, List.getElem?_map, List.getElem?_drop]
  by_cases hi : i < n
  · rw [List.getElem?_range hi, List.getElem?_eq_getElem (by omega : k + i < xs.length)]; show some (lint (xs.getD (k + i) 0)) = some (lint xs[k + i]); rw [List.getD_eq_getElem?_getD, List.getElem?_eq_getElem (by omega : k + i < xs.length)]; rfl
  · rw [List.getElem?_eq_none (by simpa using hi), List.getElem?_eq_none (by omega)]; rfl
theorem range_takeI {xs : List Int} {k : Nat} (h : k ≤ xs.length) : (List.range k).map (fun j => AV.iv (IV.lit (Value.int IntKind.i64 (xs.getD j 0)))) = (xs.take k).map lint := range_take h
theorem range_dropI {xs : List Int} {k n : Nat} (h : k + n = xs.length) : (List.range n).map (fun j => AV.iv (IV.lit (Value.int IntKind.i64 (xs.getD (k + j) 0)))) = (xs.drop k).map lint := range_drop h
end Go.Proofs.Ytpgbimpbjdoicaa
