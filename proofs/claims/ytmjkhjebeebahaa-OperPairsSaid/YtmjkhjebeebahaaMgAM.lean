import Derived.Test.YtmjkhjebeebahaaMgAL
import Derived.Test.YtmjkhjebeebahaaProg
import Derived.Test.YtmjkhjebeebahaaMgAF
namespace Go.Proofs.Ytmjkhjebeebahaa
open Go.RowKit
set_option linter.unusedVariables false
set_option linter.unusedSimpArgs false
section
variable {P : Program} {m : Nat} {G0 : Gh} {H : AHeap}
def ADM0 (P : Program) (m : Nat) (G0 : Gh) (ops : Array Oper) (H : AHeap) (K : List AV → MS → Prop) : List Oper → List Kd → List AV → MS → Prop
  | [], _, fr, M => K fr M
  | o :: l, al, fr, M => ∃ x M', Op3 P m G0 ops H o fr M M' x (al.headD .free).al ∧ ADM0 P m G0 ops H K l al.tail (putL fr o.dst x) M'
theorem op3_strip {ops : List Oper} {n : Nat} (hn : topD (dsts ops) ≤ n) {o : Oper} {fr : List AV} {M M' : MS} {x : AV} {b : Bool} (h : Op3 P m G0 (idB n) H (strip (dsts ops) o) fr M M' x b) : Op3 P m G0 ops.toArray H o fr M M' x b := by
  cases h with
  | skip e h2 => exact .skip e (by rw [← awanted_strip hn]; exact h2)
  | does x e h1 h2 => exact .does _ e (by rw [← awanted_strip hn]; exact h1) (does_strip hn h2)
  | turn x h1 h2 =>
    refine .turn _ (by rw [← awanted_strip hn]; exact h1) fun Q G a w K hl hM hi hk => ?_
    rw [← wp_strip (dsts ops)]
    exact h2 Q G a w K hl hM hi ⟨hk.1, fun t ht => hk.2 t (by rw [← looks_strip hn]; exact ht)⟩
theorem ADM0_strip {ops : List Oper} {n : Nat} (hn : topD (dsts ops) ≤ n) {K : List AV → MS → Prop} : ∀ {l : List Oper} {al : List Kd} {fr : List AV} {M : MS}, ADM0 P m G0 (idB n) H K (l.map (strip (dsts ops))) al fr M → ADM0 P m G0 ops.toArray H K l al fr M
  | [], al, fr, M, h => h
  | o :: l, al, fr, M, h => by
    obtain ⟨x, M', h1, h2⟩ := h
    exact ⟨x, M', op3_strip hn h1, ADM0_strip hn h2⟩
theorem ADM0.fns {ops : Array Oper} {K : List AV → MS → Prop} : ∀ {l : List Oper} {al : List Kd} {fr : List AV} {M : MS}, ADM0 P m G0 ops H K l al fr M →
    ∃ (X : Nat → AV) (F : Nat → List AV) (Mk : Nat → MS), F 0 = fr ∧ Mk 0 = M ∧ K (F l.length) (Mk l.length) ∧ ∀ j o, l[j]? = some o → Op3 P m G0 ops H o (F j) (Mk j) (Mk (j + 1)) (X j) (al.getD j .free).al ∧ F (j + 1) = putL (F j) o.dst (X j)
  | [], al, fr, M, h => ⟨fun _ => uD, fun _ => fr, fun _ => M, rfl, rfl, h, fun j o e => by simp at e⟩
  | o :: l, al, fr, M, h => by
    obtain ⟨x, M', h1, h2⟩ := h
    obtain ⟨X, F, Mk, e1, e2, e3, e4⟩ := ADM0.fns h2
    refine ⟨consF x X, consF fr F, consF M Mk, rfl, rfl, e3, fun j o' e => ?_⟩
    cases j with
    | zero =>
      simp only [List.getElem?_cons_zero, Option.some.injEq] at e; subst e
      refine ⟨?_, e1⟩
      show Op3 P m G0 ops H o fr M (Mk 0) x (al.getD 0 .free).al
      rw [e2]
      cases al <;> exact h1
    | succ j =>
      simp only [List.getElem?_cons_succ] at e
      have := e4 j o' e
      cases al <;> exact this
/-- The first operations done so far, the rest to come; the maps. -/
def ADX (P : Program) (m : Nat) (H : AHeap) (K : List AV → MS → Prop) (p : List Oper × List Kd × List AV × MS) : Prop := ∀ n, p.2.2.1.length ≤ n → ∀ G0, ADM0 P m G0 (idB n) H K p.1 p.2.1 p.2.2.1 p.2.2.2
def mapOp : Op → Bool
  | .mapUpdate _ _ _ _ | .lookup _ _ _ _ => true
  | .call c => match c.callee with
    | .builtin .delete => true
    | _ => false
  | _ => false
def alM (l : List Oper) : List Kd := l.map fun o => if mapOp o.op = true then .grow else .free
variable {tt : TT} {fr : List AV} {o : Oper} {l : List Oper} {al : List Kd} {K : List AV → MS → Prop} {M : MS}
theorem ADX_nil (h : K fr M) : ADX P m H K ([], al, fr, M) := fun n hn G0 => h
theorem ADX_id {p : List Oper × List Kd × List AV × MS} (h : ADX P m H K p) : ADX P m H K p := h
theorem ADX_op (hT : TyOK P tt) (hr : roOp o.op = true) (hw : wantedS fr o = some true) (h : match aop tt ⟨fr, H⟩ o with | some (x, _) => ADX P m H K (l, al, putL fr o.dst x, M) | none => False) : ADX P m H K (o :: l, .free :: al, fr, M) := fun n hn G0 => by
  cases hx : aop tt ⟨fr, H⟩ o with
  | none => rw [hx] at h; exact h.elim
  | some p =>
    obtain ⟨x, H'⟩ := p
    rw [hx] at h
    have := aop_ro hr hx
    subst this
    exact ⟨x, M, .does x rfl (wanted_iff hn hw) (does_aop hT hx), h n (by show (putL _ _ _).length ≤ n; rw [putL_len]; exact hn) G0⟩
theorem ADX_skip (hw : wantedS fr o = some false) (h : ADX P m H K (l, al, putL fr o.dst uD, M)) : ADX P m H K (o :: l, .free :: al, fr, M) := fun n hn G0 =>
  ⟨uD, M, .skip rfl (wanted_iff hn hw), h n (by show (putL _ _ _).length ≤ n; rw [putL_len]; exact hn) G0⟩
theorem AX_drawM {Q : Exit → XS → Prop} (hmx : P.follows .mixedOrders = true) {id : Nat} {ops : List Oper} (hord : ordOK ops.toArray ops.length (alM ops) = true)
    (h : ∀ (K : List AV → MS → Prop), (∀ F M', Q .normal ⟨F, H, M'⟩ → K F M') → ADX P m H K (ops.map (strip (dsts ops)), alM ops, fr, M)) : AX P m (.region id ops.toArray true) Q ⟨fr, H, M⟩ := fun G0 G a w hm hl0 hM hr => by
  have hsz : ops.toArray.size = ops.length := by simp
  have ord : Ord ops.toArray ops.toArray.size (alM ops) := by rw [hsz]; exact ord_of hord
  obtain ⟨X, F, Mk, e1, e2, e3, e4⟩ := (ADM0_strip (n := max fr.length (topD (dsts ops))) (Nat.le_max_right _ _) (h (fun F M' => Q .normal ⟨F, H, M'⟩) (fun _ _ h => h) (max fr.length (topD (dsts ops))) (Nat.le_max_left _ _) G0)).fns
  refine wp_region_any hmx ?_
  refine any3 (m := m) (G0 := G0) (H := H) (X := X) (F := F) (Mk := Mk) ord ⟨fun k o ho => e4 k o (by simpa using ho)⟩ hm (R := PostX m G0 Q) (fun G' a' w' k1 k2 k3 => ⟨G', ⟨F ops.toArray.size, H, Mk ops.toArray.size⟩, k1, k2, hm, k3, by rw [hsz]; exact e3⟩) ops.toArray.size (Array.replicate ops.toArray.size false) a { w with drawn := w.drawn + 1 } G 0 ?_ ?_ hr.defers ?_ (Nat.zero_le _) ?_ hr.inv.drew hl0 (by rw [e2]; exact hM)
  · simp [left]
  · refine ⟨by simp, fun j hj => ?_⟩
    simp [Array.getD] at hj
  · refine ⟨by rw [e1]; have := hr.fr.1; simp at this; exact this.symm, fun t j ht hj hl => ?_, fun t ht _ => ?_⟩
    · simp [Array.getD] at hl
    · rw [e1, arr_getD]; exact hr.fr.getD t
  · intro j hj ha
    simp [Array.getD]
theorem AX_drawM1 {Q : Exit → XS → Prop} (hmx : P.follows .mixedOrders = true) {id : Nat} {ops : List Oper} (hany : (ops.any fun o => mapOp o.op) = true) (hord : ordOK ops.toArray ops.length (alM ops) = true)
    (h : ∀ (K : List AV → MS → Prop), (∀ F M', Q .normal ⟨F, H, M'⟩ → K F M') → ADX P m H K (ops.map (strip (dsts ops)), alM ops, fr, M)) : AX P m (.region id ops.toArray true) Q ⟨fr, H, M⟩ := AX_drawM hmx hord h
end
section
variable {m : Nat} {H : AHeap} {fr : List AV} {l : List Oper} {al : List Kd} {K : List AV → MS → Prop} {M : MS} {t e : TypeId} {d : Option Tmp} {ty : TypeId} {pos : String} {after : Array Edge} {g : Option (Nat × Bool)}
theorem looks_lit {n : Nat} {o : Oper} {a : Act} {G : Gh} {H : AHeap} (hl : Looks (idB n) o H.length G fr a) {x : Operand} (hx : x ∈ o.op.operands) {v : Value} (h : AS.ev ⟨fr, H⟩ x = lt v) : a.eval x = v := by
  have := hl.ev (H := H) hx; rw [h] at this; exact this.lit_inv
/-- What turns a map. -/
theorem ADX_turn {P : Program} {o : Oper} {i b k k' : Nat} {F F' : MC} {v : Value} (hM : M[i]? = some (b, k, F)) (hw : wantedS fr o = some true)
    (hrun : ∀ (n : Nat) (a : Act) (w : World) G, Looks (idB n) o H.length G fr a → IMap w b k F → ∃ w', ((execOp a.eval o).run P w = .ok (.value v) w' ∨ ((execOp a.eval o).run P w = .ok .skip w' ∧ v = undef)) ∧ IMap w' b k' F' ∧ w.grownBy w' (some b))
    (h : ADX P m H K (l, al, putL fr o.dst (lt v), M.set i (b, k', F'))) : ADX P m H K (o :: l, .grow :: al, fr, M) := fun n hn G0 => by
  refine ⟨lt v, M.set i (b, k', F'), .turn _ (wanted_iff hn hw) fun Q G a w K' hl hMM hi hlk hk => ?_, h n (by show (putL _ _ _).length ≤ n; rw [putL_len]; exact hn) G0⟩
  obtain ⟨c1, c2, c3, ob0, c4⟩ := hMM.at hi hM
  obtain ⟨w', r1, r2, r3⟩ := hrun n a w G hlk c3
  obtain ⟨ob, o1, o2⟩ := r2.at
  have hlt : i < M.length := (List.getElem?_eq_some_iff.1 hM).1
  have hfin := hk (fun c => if c = b then some ob else G.kp c) v w' (leb_block hl ob c1 c2) ⟨fun e he => by
    obtain ⟨j, hj⟩ := List.mem_iff_getElem?.1 he
    by_cases hji : i = j
    · subst hji
      rw [List.getElem?_set_self hlt] at hj; cases hj
      exact ⟨c1, c2, ob, if_pos rfl, o2⟩
    · rw [List.getElem?_set_ne hji] at hj
      obtain ⟨h1, h2, ob', h3, h4⟩ := hMM.one e (List.mem_iff_getElem?.2 ⟨j, hj⟩)
      have hne : e.1 ≠ b := fun heq => by
        have ht := List.pairwise_iff_getElem.1 hMM.two
        obtain ⟨l1, e1⟩ := List.getElem?_eq_some_iff.1 hM
        obtain ⟨l2, e2⟩ := List.getElem?_eq_some_iff.1 hj
        rcases Nat.lt_or_gt_of_ne hji with h5 | h5
        · have := ht i j l1 l2 h5; rw [e1, e2] at this; exact this heq.symm
        · have := ht j i l2 l1 h5; rw [e1, e2] at this; exact this heq
      exact ⟨h1, h2, ob', by show (if e.1 = b then _ else _) = _; rw [if_neg hne]; exact h3, h4⟩, by
    refine List.pairwise_iff_getElem.2 fun p q hp hq hpq => ?_
    have ht := List.pairwise_iff_getElem.1 hMM.two
    have e1 : ∀ (p : Nat) (hp : p < (M.set i (b, k', F')).length), ((M.set i (b, k', F'))[p]).1 = (M[p]'(by simpa using hp)).1 := fun p hp => by
      rw [List.getElem_set]
      split
      · rename_i hh; subst hh
        obtain ⟨l1, e1⟩ := List.getElem?_eq_some_iff.1 hM
        rw [e1]
      · rfl
    show ((M.set i (b, k', F'))[p]).1 ≠ ((M.set i (b, k', F'))[q]).1
    rw [e1, e1]
    exact ht p q (by simpa using hp) (by simpa using hq) hpq⟩ (hi.block_set c2 (obj_ne hi c4) o1 r3) (.iv _ _ (.lit _))
  unfold Oper.wp
  rcases r1 with r1 | ⟨r1, rfl⟩
  · rw [r1]; exact hfin
  · rw [r1]; exact hfin
theorem ADX_mput {mo x v : Operand} (hw : wantedS fr ⟨d, .mapUpdate t mo x v, ty, pos, after, g⟩ = some true) (ht : Try.prog.underlying t = some (.map 3 e)) {i b n : Nat} {F : MC} (hm : AS.ev ⟨fr, H⟩ mo = lt (.map (some b))) (hM : M[i]? = some (b, n, F))
    {k : Int} (hx : AS.ev ⟨fr, H⟩ x = lt (.int .i64 k)) (k1 : -9223372036854775808 ≤ k ∧ k ≤ 9223372036854775807) {u : Value} (hv : AS.ev ⟨fr, H⟩ v = lt u) (hu : (mapR u).isSome = true) (hn : n < maxLen)
    (h : ADX Try.prog m H K (l, al, putL fr d uD, M.set i (b, n + 1, upd F k u))) : ADX Try.prog m H K (⟨d, .mapUpdate t mo x v, ty, pos, after, g⟩ :: l, .grow :: al, fr, M) :=
  ADX_turn (v := undef) hM hw (fun N a w G hl hown => by
    obtain ⟨w', hrun, h1, h2⟩ := hown.store t e ht hn k1.1 k1.2 hu
    exact ⟨w', .inr ⟨by simp [execOp, looks_lit hl (x := mo) (by simp [Op.operands]) hm, looks_lit hl (x := x) (by simp [Op.operands]) hx, looks_lit hl (x := v) (by simp [Op.operands]) hv, hrun, Result.andThen], rfl⟩, h1, h2⟩) h
theorem ra_lits {n : Nat} {G : Gh} {us : List Value} {v : Value} (h : RA n G (.agg (us.map lt)) v) : v = .agg us.toArray := by
  cases h with
  | agg _ vs h1 h2 h3 =>
    congr 2
    refine List.ext_getElem? fun j => ?_
    rw [List.length_map] at h1
    rcases Nat.lt_or_ge j vs.length with hj | hj
    · have hj' : j < us.length := by omega
      have := (h2 j (lt us[j]) vs[j] (by rw [List.getElem?_map, List.getElem?_eq_getElem hj']; rfl) (List.getElem?_eq_getElem hj)).lit_inv
      rw [List.getElem?_eq_getElem hj, List.getElem?_eq_getElem hj', this]
    · rw [List.getElem?_eq_none hj, List.getElem?_eq_none (by omega)]
theorem ADX_mputA {mo x v : Operand} (hw : wantedS fr ⟨d, .mapUpdate t mo x v, ty, pos, after, g⟩ = some true) (ht : Try.prog.underlying t = some (.map 3 e)) {i b n : Nat} {F : MC} (hm : AS.ev ⟨fr, H⟩ mo = lt (.map (some b))) (hM : M[i]? = some (b, n, F))
    {k : Int} (hx : AS.ev ⟨fr, H⟩ x = lt (.int .i64 k)) (k1 : -9223372036854775808 ≤ k ∧ k ≤ 9223372036854775807) {us : List Value} (hv : AS.ev ⟨fr, H⟩ v = .agg (us.map lt)) (hu : (mapR (.agg us.toArray)).isSome = true) (hn : n < maxLen)
    (h : ADX Try.prog m H K (l, al, putL fr d uD, M.set i (b, n + 1, upd F k (.agg us.toArray)))) : ADX Try.prog m H K (⟨d, .mapUpdate t mo x v, ty, pos, after, g⟩ :: l, .grow :: al, fr, M) :=
  ADX_turn (v := undef) hM hw (fun N a w G hl hown => by
    obtain ⟨w', hrun, h1, h2⟩ := hown.store t e ht hn k1.1 k1.2 hu
    have hv' := hl.ev (H := H) (x := v) (by simp [Op.operands])
    rw [hv] at hv'
    exact ⟨w', .inr ⟨by simp [execOp, looks_lit hl (x := mo) (by simp [Op.operands]) hm, looks_lit hl (x := x) (by simp [Op.operands]) hx, ra_lits hv', hrun, Result.andThen], rfl⟩, h1, h2⟩) h
theorem ADX_mget {mo x : Operand} {z : Value} (hw : wantedS fr ⟨d, .lookup t mo x false, ty, pos, after, g⟩ = some true) (ht : Try.prog.underlying t = some (.map 3 e)) (hz : ∀ w, (zeroValue e).run Try.prog w = .ok z w) (hzR : (mapR z).isSome = true) {i b n : Nat} {F : MC} (hm : AS.ev ⟨fr, H⟩ mo = lt (.map (some b))) (hM : M[i]? = some (b, n, F))
    {k : Int} (hx : AS.ev ⟨fr, H⟩ x = lt (.int .i64 k)) (k1 : -9223372036854775808 ≤ k ∧ k ≤ 9223372036854775807)
    (h : ADX Try.prog m H K (l, al, putL fr d (lt ((F k).getD z)), M.set i (b, n, F))) : ADX Try.prog m H K (⟨d, .lookup t mo x false, ty, pos, after, g⟩ :: l, .grow :: al, fr, M) :=
  ADX_turn (v := (F k).getD z) hM hw (fun N a w G hl hown =>
    ⟨w, .inl (by simp [execOp, looks_lit hl (x := mo) (by simp [Op.operands]) hm, looks_lit hl (x := x) (by simp [Op.operands]) hx, hown.get ht (hz w) hzR k1.1 k1.2, Result.andThen]), hown, World.grownBy.refl _ _⟩) h
end
end Go.Proofs.Ytmjkhjebeebahaa
namespace Go.Proofs.Ytmjkhjebeebahaa
open Go.RowKit
def tyTab : List (Option TyRow) := [
  some { kind := TyKind.other, size := 1, bytes := 0, zero := [Value.tuple { toList := [] }] },
  some { kind := TyKind.other, size := 1, bytes := 8, zero := [Value.nilFunc] },
  some { kind := TyKind.int IntKind.i64, size := 1, bytes := 8, zero := [Value.int IntKind.i64 0] },
  some { kind := TyKind.int IntKind.i64, size := 1, bytes := 8, zero := [Value.int IntKind.i64 0] },
  some { kind := TyKind.bool, size := 1, bytes := 1, zero := [Value.bool false] },
  some { kind := TyKind.int IntKind.u8, size := 1, bytes := 1, zero := [Value.int IntKind.u8 0] },
  some { kind := TyKind.int IntKind.u8, size := 1, bytes := 1, zero := [Value.int IntKind.u8 0] },
  some { kind := TyKind.st [(2, 0), (3, 1), (4, 2), (6, 3)], size := 4, bytes := 24, zero := [Value.int IntKind.i64 0, Value.int IntKind.i64 0, Value.bool false, Value.int IntKind.u8 0] },
  some { kind := TyKind.st [(2, 0), (3, 1), (4, 2), (6, 3)], size := 4, bytes := 24, zero := [Value.int IntKind.i64 0, Value.int IntKind.i64 0, Value.bool false, Value.int IntKind.u8 0] },
  some { kind := TyKind.str, size := 1, bytes := 16, zero := [Value.string ByteArray.empty] },
  some { kind := TyKind.str, size := 1, bytes := 16, zero := [Value.string ByteArray.empty] },
  some { kind := TyKind.str, size := 1, bytes := 16, zero := [Value.string ByteArray.empty] },
  some { kind := TyKind.int IntKind.u64, size := 1, bytes := 8, zero := [Value.int IntKind.u64 0] },
  some { kind := TyKind.st [(9, 0), (12, 1)], size := 2, bytes := 24, zero := [Value.string ByteArray.empty, Value.int IntKind.u64 0] },
  some { kind := TyKind.st [(9, 0), (12, 1)], size := 2, bytes := 24, zero := [Value.string ByteArray.empty, Value.int IntKind.u64 0] },
  some { kind := TyKind.ptr 96, size := 1, bytes := 8, zero := [Value.pointer none] },
  some { kind := TyKind.ptr 99, size := 1, bytes := 8, zero := [Value.pointer none] },
  some { kind := TyKind.ptr 108, size := 1, bytes := 8, zero := [Value.pointer none] },
  some { kind := TyKind.st [(17, 0)], size := 1, bytes := 8, zero := [Value.pointer none] },
  some { kind := TyKind.st [(17, 0)], size := 1, bytes := 8, zero := [Value.pointer none] },
  some { kind := TyKind.other, size := 1, bytes := 16, zero := [Value.nilIface] },
  some { kind := TyKind.int IntKind.i32, size := 1, bytes := 4, zero := [Value.int IntKind.i32 0] },
  some { kind := TyKind.sl 49, size := 1, bytes := 24, zero := [Value.slice none 0 0] },
  some { kind := TyKind.sl 47, size := 1, bytes := 24, zero := [Value.slice none 0 0] },
  some { kind := TyKind.other, size := 1, bytes := 8, zero := [Value.nilFunc] },
  some { kind := TyKind.int IntKind.i64, size := 1, bytes := 8, zero := [Value.int IntKind.i64 0] },
  some { kind := TyKind.other, size := 1, bytes := 0, zero := [Value.tuple { toList := [Value.slice none 0 0, Value.int IntKind.i64 0] }] },
  some { kind := TyKind.other, size := 1, bytes := 8, zero := [Value.nilFunc] },
  some { kind := TyKind.other, size := 1, bytes := 0, zero := [Value.tuple { toList := [Value.slice none 0 0, Value.int IntKind.i64 0] }] },
  some { kind := TyKind.other, size := 1, bytes := 8, zero := [Value.nilFunc] },
  some { kind := TyKind.other, size := 1, bytes := 0, zero := [Value.tuple { toList := [Value.int IntKind.i64 0, Value.int IntKind.i64 0] }] },
  some { kind := TyKind.other, size := 1, bytes := 8, zero := [Value.nilFunc] },
  some { kind := TyKind.other, size := 1, bytes := 0, zero := [Value.tuple { toList := [Value.int IntKind.i64 0, Value.int IntKind.i64 0] }] },
  some { kind := TyKind.other, size := 1, bytes := 8, zero := [Value.nilFunc] },
  some { kind := TyKind.other, size := 1, bytes := 8, zero := [Value.nilFunc] },
  some { kind := TyKind.other, size := 1, bytes := 8, zero := [Value.nilFunc] },
  some { kind := TyKind.sl 4, size := 1, bytes := 24, zero := [Value.slice none 0 0] },
  some { kind := TyKind.other, size := 1, bytes := 8, zero := [Value.nilFunc] },
  some { kind := TyKind.sl 52, size := 1, bytes := 24, zero := [Value.slice none 0 0] },
  some { kind := TyKind.other, size := 1, bytes := 8, zero := [Value.nilFunc] },
  some { kind := TyKind.other, size := 1, bytes := 8, zero := [Value.nilFunc] },
  some { kind := TyKind.sl 3, size := 1, bytes := 24, zero := [Value.slice none 0 0] },
  some { kind := TyKind.other, size := 1, bytes := 8, zero := [Value.nilFunc] },
  some { kind := TyKind.other, size := 1, bytes := 8, zero := [Value.nilFunc] },
  some { kind := TyKind.other, size := 1, bytes := 8, zero := [Value.nilFunc] },
  some { kind := TyKind.other, size := 1, bytes := 8, zero := [Value.nilFunc] },
  some { kind := TyKind.st [(3, 0), (3, 1), (3, 2), (3, 3), (3, 4)], size := 5, bytes := 40, zero := [Value.int IntKind.i64 0, Value.int IntKind.i64 0, Value.int IntKind.i64 0, Value.int IntKind.i64 0, Value.int IntKind.i64 0] },
  some { kind := TyKind.st [(3, 0), (3, 1), (3, 2), (3, 3), (3, 4)], size := 5, bytes := 40, zero := [Value.int IntKind.i64 0, Value.int IntKind.i64 0, Value.int IntKind.i64 0, Value.int IntKind.i64 0, Value.int IntKind.i64 0] },
  some { kind := TyKind.st [(3, 0), (3, 1), (3, 2)], size := 3, bytes := 24, zero := [Value.int IntKind.i64 0, Value.int IntKind.i64 0, Value.int IntKind.i64 0] },
  some { kind := TyKind.st [(3, 0), (3, 1), (3, 2)], size := 3, bytes := 24, zero := [Value.int IntKind.i64 0, Value.int IntKind.i64 0, Value.int IntKind.i64 0] },
  some { kind := TyKind.other, size := 1, bytes := 8, zero := [Value.nilFunc] },
  some { kind := TyKind.other, size := 1, bytes := 8, zero := [Value.nilFunc] },
  some { kind := TyKind.arr 2 3, size := 2, bytes := 16, zero := [Value.int IntKind.i64 0, Value.int IntKind.i64 0] },
  some { kind := TyKind.other, size := 1, bytes := 8, zero := [Value.nilFunc] },
  some { kind := TyKind.map 3 3, size := 1, bytes := 8, zero := [Value.map none] },
  some { kind := TyKind.ptr 47, size := 1, bytes := 8, zero := [Value.pointer none] },
  some { kind := TyKind.other, size := 1, bytes := 8, zero := [Value.nilFunc] },
  some { kind := TyKind.map 3 60, size := 1, bytes := 8, zero := [Value.map none] },
  some { kind := TyKind.map 3 47, size := 1, bytes := 8, zero := [Value.map none] },
  some { kind := TyKind.other, size := 1, bytes := 8, zero := [Value.nilFunc] },
  some { kind := TyKind.st [], size := 0, bytes := 0, zero := [] },
  some { kind := TyKind.other, size := 1, bytes := 0, zero := [Value.tuple { toList := [Value.agg { toList := [] }, Value.bool false] }] },
  some { kind := TyKind.other, size := 1, bytes := 0, zero := [Value.tuple { toList := [Value.agg { toList := [Value.int IntKind.i64 0, Value.int IntKind.i64 0, Value.int IntKind.i64 0, Value.int IntKind.i64 0, Value.int IntKind.i64 0] }, Value.bool false] }] },
  some { kind := TyKind.other, size := 1, bytes := 8, zero := [Value.nilFunc] },
  some { kind := TyKind.other, size := 1, bytes := 8, zero := [Value.nilFunc] },
  some { kind := TyKind.other, size := 1, bytes := 8, zero := [Value.nilFunc] },
  some { kind := TyKind.other, size := 1, bytes := 8, zero := [Value.nilFunc] },
  some { kind := TyKind.other, size := 1, bytes := 8, zero := [Value.nilFunc] },
  some { kind := TyKind.other, size := 1, bytes := 8, zero := [Value.nilFunc] },
  some { kind := TyKind.other, size := 1, bytes := 8, zero := [Value.nilFunc] },
  some { kind := TyKind.other, size := 1, bytes := 8, zero := [Value.nilFunc] },
  some { kind := TyKind.int IntKind.u64, size := 1, bytes := 8, zero := [Value.int IntKind.u64 0] },
  some { kind := TyKind.other, size := 1, bytes := 8, zero := [Value.nilFunc] },
  some { kind := TyKind.other, size := 1, bytes := 8, zero := [Value.nilFunc] },
  some { kind := TyKind.int IntKind.i64, size := 1, bytes := 8, zero := [Value.int IntKind.i64 0] },
  some { kind := TyKind.other, size := 1, bytes := 0, zero := [Value.tuple { toList := [Value.int IntKind.i64 0, Value.int IntKind.i64 0] }] },
  some { kind := TyKind.other, size := 1, bytes := 8, zero := [Value.nilFunc] },
  some { kind := TyKind.other, size := 1, bytes := 8, zero := [Value.nilFunc] },
  some { kind := TyKind.other, size := 1, bytes := 8, zero := [Value.nilFunc] },
  some { kind := TyKind.other, size := 1, bytes := 8, zero := [Value.nilFunc] },
  some { kind := TyKind.other, size := 1, bytes := 0, zero := [Value.tuple { toList := [Value.int IntKind.i64 0, Value.bool false] }] },
  some { kind := TyKind.other, size := 1, bytes := 8, zero := [Value.nilFunc] },
  some { kind := TyKind.other, size := 1, bytes := 8, zero := [Value.nilFunc] },
  some { kind := TyKind.int IntKind.u32, size := 1, bytes := 4, zero := [Value.int IntKind.u32 0] },
  some { kind := TyKind.other, size := 1, bytes := 8, zero := [Value.nilFunc] },
  some { kind := TyKind.int IntKind.u64, size := 1, bytes := 8, zero := [Value.int IntKind.u64 0] },
  some { kind := TyKind.int IntKind.u64, size := 1, bytes := 8, zero := [Value.int IntKind.u64 0] },
  some { kind := TyKind.other, size := 1, bytes := 8, zero := [Value.nilFunc] },
  some { kind := TyKind.other, size := 1, bytes := 8, zero := [Value.nilFunc] },
  some { kind := TyKind.other, size := 1, bytes := 8, zero := [Value.nilFunc] },
  some { kind := TyKind.ptr 3, size := 1, bytes := 8, zero := [Value.pointer none] },
  some { kind := TyKind.other, size := 1, bytes := 8, zero := [Value.nilFunc] },
  some { kind := TyKind.ptr 86, size := 1, bytes := 8, zero := [Value.pointer none] },
  some { kind := TyKind.other, size := 1, bytes := 8, zero := [Value.nilFunc] },
  some { kind := TyKind.other, size := 1, bytes := 8, zero := [Value.nilFunc] },
  some { kind := TyKind.st [(17, 0), (17, 1), (17, 2), (9, 3)], size := 4, bytes := 40, zero := [Value.pointer none, Value.pointer none, Value.pointer none, Value.string ByteArray.empty] },
  some { kind := TyKind.st [(17, 0), (17, 1), (17, 2), (9, 3)], size := 4, bytes := 40, zero := [Value.pointer none, Value.pointer none, Value.pointer none, Value.string ByteArray.empty] },
  some { kind := TyKind.arr 0 16, size := 0, bytes := 0, zero := [] },
  some { kind := TyKind.st [(97, 0)], size := 0, bytes := 0, zero := [] },
  some { kind := TyKind.st [(97, 0)], size := 0, bytes := 0, zero := [] },
  some { kind := TyKind.other, size := 1, bytes := 8, zero := [Value.nilFunc] },
  some { kind := TyKind.int IntKind.u8, size := 1, bytes := 1, zero := [Value.int IntKind.u8 0] },
  some { kind := TyKind.int IntKind.u8, size := 1, bytes := 1, zero := [Value.int IntKind.u8 0] },
  some { kind := TyKind.other, size := 1, bytes := 8, zero := [Value.nilFunc] },
  some { kind := TyKind.ptr 5, size := 1, bytes := 8, zero := [Value.pointer none] },
  some { kind := TyKind.int IntKind.i32, size := 1, bytes := 4, zero := [Value.int IntKind.i32 0] },
  some { kind := TyKind.int IntKind.i32, size := 1, bytes := 4, zero := [Value.int IntKind.i32 0] },
  some { kind := TyKind.st [(12, 0), (12, 1), (83, 2), (101, 3), (5, 4), (5, 5), (102, 6), (103, 7), (104, 8), (105, 9), (106, 10)], size := 11, bytes := 48, zero := [Value.int IntKind.u64 0, Value.int IntKind.u64 0, Value.int IntKind.u32 0, Value.int IntKind.u8 0, Value.int IntKind.u8 0, Value.int IntKind.u8 0, Value.int IntKind.u8 0, Value.nilFunc, Value.pointer none, Value.int IntKind.i32 0, Value.int IntKind.i32 0] },
  some { kind := TyKind.st [(12, 0), (12, 1), (83, 2), (101, 3), (5, 4), (5, 5), (102, 6), (103, 7), (104, 8), (105, 9), (106, 10)], size := 11, bytes := 48, zero := [Value.int IntKind.u64 0, Value.int IntKind.u64 0, Value.int IntKind.u32 0, Value.int IntKind.u8 0, Value.int IntKind.u8 0, Value.int IntKind.u8 0, Value.int IntKind.u8 0, Value.nilFunc, Value.pointer none, Value.int IntKind.i32 0, Value.int IntKind.i32 0] },
  some { kind := TyKind.other, size := 1, bytes := 8, zero := [Value.pointer none] }]
def tt : TT := fun t => (tyTab[t]?).getD none
theorem tyTab_ok : ((List.range 110).map fun t => if ((tyTab[t]?).getD none).isSome then tyRow Try.prog t else none) = tyTab := by kernel_rfl
theorem tyOK : TyOK Try.prog tt := fun t r h => by
  have h' : (tyTab[t]?).getD none = some r := h
  have hlt : t < 110 := by
    rcases Nat.lt_or_ge t 110 with h1 | h1
    · exact h1
    · rw [List.getElem?_eq_none (by show _ ≤ t; exact h1)] at h'; cases h'
  have e := congrArg (fun l => l[t]?) tyTab_ok
  simp only [List.getElem?_map, List.getElem?_range hlt, Option.map_some] at e
  rw [h'] at e
  rw [← e] at h'
  simpa using h'
theorem tt_0 : tt 0 = some { kind := TyKind.other, size := 1, bytes := 0, zero := [Value.tuple { toList := [] }] } := rfl
theorem tt_1 : tt 1 = some { kind := TyKind.other, size := 1, bytes := 8, zero := [Value.nilFunc] } := rfl
theorem tt_2 : tt 2 = some { kind := TyKind.int IntKind.i64, size := 1, bytes := 8, zero := [Value.int IntKind.i64 0] } := rfl
theorem tt_3 : tt 3 = some { kind := TyKind.int IntKind.i64, size := 1, bytes := 8, zero := [Value.int IntKind.i64 0] } := rfl
theorem tt_4 : tt 4 = some { kind := TyKind.bool, size := 1, bytes := 1, zero := [Value.bool false] } := rfl
theorem tt_5 : tt 5 = some { kind := TyKind.int IntKind.u8, size := 1, bytes := 1, zero := [Value.int IntKind.u8 0] } := rfl
theorem tt_6 : tt 6 = some { kind := TyKind.int IntKind.u8, size := 1, bytes := 1, zero := [Value.int IntKind.u8 0] } := rfl
theorem tt_7 : tt 7 = some { kind := TyKind.st [(2, 0), (3, 1), (4, 2), (6, 3)], size := 4, bytes := 24, zero := [Value.int IntKind.i64 0, Value.int IntKind.i64 0, Value.bool false, Value.int IntKind.u8 0] } := rfl
theorem tt_8 : tt 8 = some { kind := TyKind.st [(2, 0), (3, 1), (4, 2), (6, 3)], size := 4, bytes := 24, zero := [Value.int IntKind.i64 0, Value.int IntKind.i64 0, Value.bool false, Value.int IntKind.u8 0] } := rfl
theorem tt_9 : tt 9 = some { kind := TyKind.str, size := 1, bytes := 16, zero := [Value.string ByteArray.empty] } := rfl
theorem tt_10 : tt 10 = some { kind := TyKind.str, size := 1, bytes := 16, zero := [Value.string ByteArray.empty] } := rfl
theorem tt_11 : tt 11 = some { kind := TyKind.str, size := 1, bytes := 16, zero := [Value.string ByteArray.empty] } := rfl
theorem tt_12 : tt 12 = some { kind := TyKind.int IntKind.u64, size := 1, bytes := 8, zero := [Value.int IntKind.u64 0] } := rfl
theorem tt_13 : tt 13 = some { kind := TyKind.st [(9, 0), (12, 1)], size := 2, bytes := 24, zero := [Value.string ByteArray.empty, Value.int IntKind.u64 0] } := rfl
theorem tt_14 : tt 14 = some { kind := TyKind.st [(9, 0), (12, 1)], size := 2, bytes := 24, zero := [Value.string ByteArray.empty, Value.int IntKind.u64 0] } := rfl
theorem tt_15 : tt 15 = some { kind := TyKind.ptr 96, size := 1, bytes := 8, zero := [Value.pointer none] } := rfl
theorem tt_16 : tt 16 = some { kind := TyKind.ptr 99, size := 1, bytes := 8, zero := [Value.pointer none] } := rfl
theorem tt_17 : tt 17 = some { kind := TyKind.ptr 108, size := 1, bytes := 8, zero := [Value.pointer none] } := rfl
theorem tt_18 : tt 18 = some { kind := TyKind.st [(17, 0)], size := 1, bytes := 8, zero := [Value.pointer none] } := rfl
theorem tt_19 : tt 19 = some { kind := TyKind.st [(17, 0)], size := 1, bytes := 8, zero := [Value.pointer none] } := rfl
theorem tt_20 : tt 20 = some { kind := TyKind.other, size := 1, bytes := 16, zero := [Value.nilIface] } := rfl
theorem tt_21 : tt 21 = some { kind := TyKind.int IntKind.i32, size := 1, bytes := 4, zero := [Value.int IntKind.i32 0] } := rfl
theorem tt_22 : tt 22 = some { kind := TyKind.sl 49, size := 1, bytes := 24, zero := [Value.slice none 0 0] } := rfl
theorem tt_23 : tt 23 = some { kind := TyKind.sl 47, size := 1, bytes := 24, zero := [Value.slice none 0 0] } := rfl
theorem tt_24 : tt 24 = some { kind := TyKind.other, size := 1, bytes := 8, zero := [Value.nilFunc] } := rfl
theorem tt_25 : tt 25 = some { kind := TyKind.int IntKind.i64, size := 1, bytes := 8, zero := [Value.int IntKind.i64 0] } := rfl
theorem tt_26 : tt 26 = some { kind := TyKind.other, size := 1, bytes := 0, zero := [Value.tuple { toList := [Value.slice none 0 0, Value.int IntKind.i64 0] }] } := rfl
theorem tt_27 : tt 27 = some { kind := TyKind.other, size := 1, bytes := 8, zero := [Value.nilFunc] } := rfl
theorem tt_28 : tt 28 = some { kind := TyKind.other, size := 1, bytes := 0, zero := [Value.tuple { toList := [Value.slice none 0 0, Value.int IntKind.i64 0] }] } := rfl
theorem tt_29 : tt 29 = some { kind := TyKind.other, size := 1, bytes := 8, zero := [Value.nilFunc] } := rfl
theorem tt_30 : tt 30 = some { kind := TyKind.other, size := 1, bytes := 0, zero := [Value.tuple { toList := [Value.int IntKind.i64 0, Value.int IntKind.i64 0] }] } := rfl
theorem tt_31 : tt 31 = some { kind := TyKind.other, size := 1, bytes := 8, zero := [Value.nilFunc] } := rfl
theorem tt_32 : tt 32 = some { kind := TyKind.other, size := 1, bytes := 0, zero := [Value.tuple { toList := [Value.int IntKind.i64 0, Value.int IntKind.i64 0] }] } := rfl
theorem tt_33 : tt 33 = some { kind := TyKind.other, size := 1, bytes := 8, zero := [Value.nilFunc] } := rfl
theorem tt_34 : tt 34 = some { kind := TyKind.other, size := 1, bytes := 8, zero := [Value.nilFunc] } := rfl
theorem tt_35 : tt 35 = some { kind := TyKind.other, size := 1, bytes := 8, zero := [Value.nilFunc] } := rfl
theorem tt_36 : tt 36 = some { kind := TyKind.sl 4, size := 1, bytes := 24, zero := [Value.slice none 0 0] } := rfl
theorem tt_37 : tt 37 = some { kind := TyKind.other, size := 1, bytes := 8, zero := [Value.nilFunc] } := rfl
theorem tt_38 : tt 38 = some { kind := TyKind.sl 52, size := 1, bytes := 24, zero := [Value.slice none 0 0] } := rfl
theorem tt_39 : tt 39 = some { kind := TyKind.other, size := 1, bytes := 8, zero := [Value.nilFunc] } := rfl
theorem tt_40 : tt 40 = some { kind := TyKind.other, size := 1, bytes := 8, zero := [Value.nilFunc] } := rfl
theorem tt_41 : tt 41 = some { kind := TyKind.sl 3, size := 1, bytes := 24, zero := [Value.slice none 0 0] } := rfl
theorem tt_42 : tt 42 = some { kind := TyKind.other, size := 1, bytes := 8, zero := [Value.nilFunc] } := rfl
theorem tt_43 : tt 43 = some { kind := TyKind.other, size := 1, bytes := 8, zero := [Value.nilFunc] } := rfl
theorem tt_44 : tt 44 = some { kind := TyKind.other, size := 1, bytes := 8, zero := [Value.nilFunc] } := rfl
theorem tt_45 : tt 45 = some { kind := TyKind.other, size := 1, bytes := 8, zero := [Value.nilFunc] } := rfl
theorem tt_46 : tt 46 = some { kind := TyKind.st [(3, 0), (3, 1), (3, 2), (3, 3), (3, 4)], size := 5, bytes := 40, zero := [Value.int IntKind.i64 0, Value.int IntKind.i64 0, Value.int IntKind.i64 0, Value.int IntKind.i64 0, Value.int IntKind.i64 0] } := rfl
theorem tt_47 : tt 47 = some { kind := TyKind.st [(3, 0), (3, 1), (3, 2), (3, 3), (3, 4)], size := 5, bytes := 40, zero := [Value.int IntKind.i64 0, Value.int IntKind.i64 0, Value.int IntKind.i64 0, Value.int IntKind.i64 0, Value.int IntKind.i64 0] } := rfl
theorem tt_48 : tt 48 = some { kind := TyKind.st [(3, 0), (3, 1), (3, 2)], size := 3, bytes := 24, zero := [Value.int IntKind.i64 0, Value.int IntKind.i64 0, Value.int IntKind.i64 0] } := rfl
theorem tt_49 : tt 49 = some { kind := TyKind.st [(3, 0), (3, 1), (3, 2)], size := 3, bytes := 24, zero := [Value.int IntKind.i64 0, Value.int IntKind.i64 0, Value.int IntKind.i64 0] } := rfl
theorem tt_50 : tt 50 = some { kind := TyKind.other, size := 1, bytes := 8, zero := [Value.nilFunc] } := rfl
theorem tt_51 : tt 51 = some { kind := TyKind.other, size := 1, bytes := 8, zero := [Value.nilFunc] } := rfl
theorem tt_52 : tt 52 = some { kind := TyKind.arr 2 3, size := 2, bytes := 16, zero := [Value.int IntKind.i64 0, Value.int IntKind.i64 0] } := rfl
theorem tt_53 : tt 53 = some { kind := TyKind.other, size := 1, bytes := 8, zero := [Value.nilFunc] } := rfl
theorem tt_54 : tt 54 = some { kind := TyKind.map 3 3, size := 1, bytes := 8, zero := [Value.map none] } := rfl
theorem tt_55 : tt 55 = some { kind := TyKind.ptr 47, size := 1, bytes := 8, zero := [Value.pointer none] } := rfl
theorem tt_56 : tt 56 = some { kind := TyKind.other, size := 1, bytes := 8, zero := [Value.nilFunc] } := rfl
theorem tt_57 : tt 57 = some { kind := TyKind.map 3 60, size := 1, bytes := 8, zero := [Value.map none] } := rfl
theorem tt_58 : tt 58 = some { kind := TyKind.map 3 47, size := 1, bytes := 8, zero := [Value.map none] } := rfl
theorem tt_59 : tt 59 = some { kind := TyKind.other, size := 1, bytes := 8, zero := [Value.nilFunc] } := rfl
theorem tt_60 : tt 60 = some { kind := TyKind.st [], size := 0, bytes := 0, zero := [] } := rfl
theorem tt_61 : tt 61 = some { kind := TyKind.other, size := 1, bytes := 0, zero := [Value.tuple { toList := [Value.agg { toList := [] }, Value.bool false] }] } := rfl
theorem tt_62 : tt 62 = some { kind := TyKind.other, size := 1, bytes := 0, zero := [Value.tuple { toList := [Value.agg { toList := [Value.int IntKind.i64 0, Value.int IntKind.i64 0, Value.int IntKind.i64 0, Value.int IntKind.i64 0, Value.int IntKind.i64 0] }, Value.bool false] }] } := rfl
theorem tt_63 : tt 63 = some { kind := TyKind.other, size := 1, bytes := 8, zero := [Value.nilFunc] } := rfl
theorem tt_64 : tt 64 = some { kind := TyKind.other, size := 1, bytes := 8, zero := [Value.nilFunc] } := rfl
theorem tt_65 : tt 65 = some { kind := TyKind.other, size := 1, bytes := 8, zero := [Value.nilFunc] } := rfl
theorem tt_66 : tt 66 = some { kind := TyKind.other, size := 1, bytes := 8, zero := [Value.nilFunc] } := rfl
theorem tt_67 : tt 67 = some { kind := TyKind.other, size := 1, bytes := 8, zero := [Value.nilFunc] } := rfl
theorem tt_68 : tt 68 = some { kind := TyKind.other, size := 1, bytes := 8, zero := [Value.nilFunc] } := rfl
theorem tt_69 : tt 69 = some { kind := TyKind.other, size := 1, bytes := 8, zero := [Value.nilFunc] } := rfl
theorem tt_70 : tt 70 = some { kind := TyKind.other, size := 1, bytes := 8, zero := [Value.nilFunc] } := rfl
theorem tt_71 : tt 71 = some { kind := TyKind.int IntKind.u64, size := 1, bytes := 8, zero := [Value.int IntKind.u64 0] } := rfl
theorem tt_72 : tt 72 = some { kind := TyKind.other, size := 1, bytes := 8, zero := [Value.nilFunc] } := rfl
theorem tt_73 : tt 73 = some { kind := TyKind.other, size := 1, bytes := 8, zero := [Value.nilFunc] } := rfl
theorem tt_74 : tt 74 = some { kind := TyKind.int IntKind.i64, size := 1, bytes := 8, zero := [Value.int IntKind.i64 0] } := rfl
theorem tt_75 : tt 75 = some { kind := TyKind.other, size := 1, bytes := 0, zero := [Value.tuple { toList := [Value.int IntKind.i64 0, Value.int IntKind.i64 0] }] } := rfl
theorem tt_76 : tt 76 = some { kind := TyKind.other, size := 1, bytes := 8, zero := [Value.nilFunc] } := rfl
theorem tt_77 : tt 77 = some { kind := TyKind.other, size := 1, bytes := 8, zero := [Value.nilFunc] } := rfl
theorem tt_78 : tt 78 = some { kind := TyKind.other, size := 1, bytes := 8, zero := [Value.nilFunc] } := rfl
theorem tt_79 : tt 79 = some { kind := TyKind.other, size := 1, bytes := 8, zero := [Value.nilFunc] } := rfl
theorem tt_80 : tt 80 = some { kind := TyKind.other, size := 1, bytes := 0, zero := [Value.tuple { toList := [Value.int IntKind.i64 0, Value.bool false] }] } := rfl
theorem tt_81 : tt 81 = some { kind := TyKind.other, size := 1, bytes := 8, zero := [Value.nilFunc] } := rfl
theorem tt_82 : tt 82 = some { kind := TyKind.other, size := 1, bytes := 8, zero := [Value.nilFunc] } := rfl
theorem tt_83 : tt 83 = some { kind := TyKind.int IntKind.u32, size := 1, bytes := 4, zero := [Value.int IntKind.u32 0] } := rfl
theorem tt_84 : tt 84 = some { kind := TyKind.other, size := 1, bytes := 8, zero := [Value.nilFunc] } := rfl
theorem tt_85 : tt 85 = some { kind := TyKind.int IntKind.u64, size := 1, bytes := 8, zero := [Value.int IntKind.u64 0] } := rfl
theorem tt_86 : tt 86 = some { kind := TyKind.int IntKind.u64, size := 1, bytes := 8, zero := [Value.int IntKind.u64 0] } := rfl
theorem tt_87 : tt 87 = some { kind := TyKind.other, size := 1, bytes := 8, zero := [Value.nilFunc] } := rfl
theorem tt_88 : tt 88 = some { kind := TyKind.other, size := 1, bytes := 8, zero := [Value.nilFunc] } := rfl
theorem tt_89 : tt 89 = some { kind := TyKind.other, size := 1, bytes := 8, zero := [Value.nilFunc] } := rfl
theorem tt_90 : tt 90 = some { kind := TyKind.ptr 3, size := 1, bytes := 8, zero := [Value.pointer none] } := rfl
theorem tt_91 : tt 91 = some { kind := TyKind.other, size := 1, bytes := 8, zero := [Value.nilFunc] } := rfl
theorem tt_92 : tt 92 = some { kind := TyKind.ptr 86, size := 1, bytes := 8, zero := [Value.pointer none] } := rfl
theorem tt_93 : tt 93 = some { kind := TyKind.other, size := 1, bytes := 8, zero := [Value.nilFunc] } := rfl
theorem tt_94 : tt 94 = some { kind := TyKind.other, size := 1, bytes := 8, zero := [Value.nilFunc] } := rfl
theorem tt_95 : tt 95 = some { kind := TyKind.st [(17, 0), (17, 1), (17, 2), (9, 3)], size := 4, bytes := 40, zero := [Value.pointer none, Value.pointer none, Value.pointer none, Value.string ByteArray.empty] } := rfl
theorem tt_96 : tt 96 = some { kind := TyKind.st [(17, 0), (17, 1), (17, 2), (9, 3)], size := 4, bytes := 40, zero := [Value.pointer none, Value.pointer none, Value.pointer none, Value.string ByteArray.empty] } := rfl
theorem tt_97 : tt 97 = some { kind := TyKind.arr 0 16, size := 0, bytes := 0, zero := [] } := rfl
theorem tt_98 : tt 98 = some { kind := TyKind.st [(97, 0)], size := 0, bytes := 0, zero := [] } := rfl
theorem tt_99 : tt 99 = some { kind := TyKind.st [(97, 0)], size := 0, bytes := 0, zero := [] } := rfl
theorem tt_100 : tt 100 = some { kind := TyKind.other, size := 1, bytes := 8, zero := [Value.nilFunc] } := rfl
theorem tt_101 : tt 101 = some { kind := TyKind.int IntKind.u8, size := 1, bytes := 1, zero := [Value.int IntKind.u8 0] } := rfl
theorem tt_102 : tt 102 = some { kind := TyKind.int IntKind.u8, size := 1, bytes := 1, zero := [Value.int IntKind.u8 0] } := rfl
theorem tt_103 : tt 103 = some { kind := TyKind.other, size := 1, bytes := 8, zero := [Value.nilFunc] } := rfl
theorem tt_104 : tt 104 = some { kind := TyKind.ptr 5, size := 1, bytes := 8, zero := [Value.pointer none] } := rfl
theorem tt_105 : tt 105 = some { kind := TyKind.int IntKind.i32, size := 1, bytes := 4, zero := [Value.int IntKind.i32 0] } := rfl
theorem tt_106 : tt 106 = some { kind := TyKind.int IntKind.i32, size := 1, bytes := 4, zero := [Value.int IntKind.i32 0] } := rfl
theorem tt_107 : tt 107 = some { kind := TyKind.st [(12, 0), (12, 1), (83, 2), (101, 3), (5, 4), (5, 5), (102, 6), (103, 7), (104, 8), (105, 9), (106, 10)], size := 11, bytes := 48, zero := [Value.int IntKind.u64 0, Value.int IntKind.u64 0, Value.int IntKind.u32 0, Value.int IntKind.u8 0, Value.int IntKind.u8 0, Value.int IntKind.u8 0, Value.int IntKind.u8 0, Value.nilFunc, Value.pointer none, Value.int IntKind.i32 0, Value.int IntKind.i32 0] } := rfl
theorem tt_108 : tt 108 = some { kind := TyKind.st [(12, 0), (12, 1), (83, 2), (101, 3), (5, 4), (5, 5), (102, 6), (103, 7), (104, 8), (105, 9), (106, 10)], size := 11, bytes := 48, zero := [Value.int IntKind.u64 0, Value.int IntKind.u64 0, Value.int IntKind.u32 0, Value.int IntKind.u8 0, Value.int IntKind.u8 0, Value.int IntKind.u8 0, Value.int IntKind.u8 0, Value.nilFunc, Value.pointer none, Value.int IntKind.i32 0, Value.int IntKind.i32 0] } := rfl
theorem tt_109 : tt 109 = some { kind := TyKind.other, size := 1, bytes := 8, zero := [Value.pointer none] } := rfl
-- TTS tt_0, tt_1, tt_2, tt_3, tt_4, tt_5, tt_6, tt_7, tt_8, tt_9, tt_10, tt_11, tt_12, tt_13, tt_14, tt_15, tt_16, tt_17, tt_18, tt_19, tt_20, tt_21, tt_22, tt_23, tt_24, tt_25, tt_26, tt_27, tt_28, tt_29, tt_30, tt_31, tt_32, tt_33, tt_34, tt_35, tt_36, tt_37, tt_38, tt_39, tt_40, tt_41, tt_42, tt_43, tt_44, tt_45, tt_46, tt_47, tt_48, tt_49, tt_50, tt_51, tt_52, tt_53, tt_54, tt_55, tt_56, tt_57, tt_58, tt_59, tt_60, tt_61, tt_62, tt_63, tt_64, tt_65, tt_66, tt_67, tt_68, tt_69, tt_70, tt_71, tt_72, tt_73, tt_74, tt_75, tt_76, tt_77, tt_78, tt_79, tt_80, tt_81, tt_82, tt_83, tt_84, tt_85, tt_86, tt_87, tt_88, tt_89, tt_90, tt_91, tt_92, tt_93, tt_94, tt_95, tt_96, tt_97, tt_98, tt_99, tt_100, tt_101, tt_102, tt_103, tt_104, tt_105, tt_106, tt_107, tt_108, tt_109


end Go.Proofs.Ytmjkhjebeebahaa
namespace Go.Proofs.Ytmjkhjebeebahaa
open Go.RowKit
set_option linter.unusedVariables false
set_option linter.unusedSimpArgs false
/-! ### Lists as cells -/
theorem rnL_lint (r : Nat → Nat) (xs : List Int) : rnL r (xs.map lint) = xs.map lint := by rw [rnL_map, List.map_map]; rfl
theorem idL_lint (p : Nat → Bool) (xs : List Int) : idL p (xs.map lint) = true := by rw [idL_all, List.all_map, List.all_eq_true]; exact fun _ _ => rfl
theorem rnL_iv {α : Type} (r : Nat → Nat) (g : α → IV) (xs : List α) : rnL r (xs.map fun x => .iv (g x)) = xs.map fun x => .iv (g x) := by rw [rnL_map, List.map_map]; rfl
theorem idL_iv {α : Type} (p : Nat → Bool) (g : α → IV) (xs : List α) : idL p (xs.map fun x => .iv (g x)) = true := by rw [idL_all, List.all_map, List.all_eq_true]; exact fun _ _ => rfl
theorem rnL_app (r : Nat → Nat) (xs ys : List AV) : rnL r (xs ++ ys) = rnL r xs ++ rnL r ys := by simp [rnL_map]
theorem idL_app (p : Nat → Bool) (xs ys : List AV) : idL p (xs ++ ys) = (idL p xs && idL p ys) := by simp [idL_all]
theorem rnL_fm {α : Type} (r : Nat → Nat) (g : α → List AV) (xs : List α) (h : ∀ x, rnL r (g x) = g x) : rnL r (xs.flatMap g) = xs.flatMap g := by
  induction xs with
  | nil => rfl
  | cons x xs ih => rw [List.flatMap_cons, rnL_app, h, ih]
theorem idL_fm {α : Type} (p : Nat → Bool) (g : α → List AV) (xs : List α) (h : ∀ x, idL p (g x) = true) : idL p (xs.flatMap g) = true := by
  induction xs with
  | nil => rfl
  | cons x xs ih => rw [List.flatMap_cons, idL_app, h, ih]; rfl
theorem lint_at {xs : List Int} {k : Nat} (h : k < xs.length) : (xs.map lint)[k]? = some (lt (.int .i64 (xs.getD k 0))) := by
  rw [List.getElem?_map, List.getD_eq_getElem?_getD, List.getElem?_eq_getElem h]; rfl
theorem lint_set (xs : List Int) (k : Nat) (v : Int) : (xs.map lint).set k (lt (.int .i64 v)) = (xs.set k v).map lint := by rw [List.map_set]; rfl
theorem lint_snoc (xs : List Int) (v : Int) : xs.map lint ++ [lt (.int .i64 v)] = (xs ++ [v]).map lint := by rw [List.map_append]; rfl
theorem take_mapL {α β : Type} (f : α → β) (xs : List α) : (xs.map f).take xs.length = xs.map f := by rw [List.take_of_length_le (by simp)]
theorem lint_one (xs : List Int) : (xs.map lint).all AV.one = true := by rw [List.all_map, List.all_eq_true]; exact fun _ _ => rfl
theorem snap_ints {H : AHeap} {o : Nat} {t : TypeId} {xs : List Int} {n : Nat} (h : H[o]? = some (some ⟨t, xs.map lint⟩)) (hn : n = xs.length) : Snap H (.osl o 0 n 1) (.iv (iInts xs)) := by
  subst hn
  exact .iv _ _ (SnapC.lits (fun j => .int .i64 (xs.getD j 0)) h fun j hj => by rw [Nat.zero_add]; exact lint_at hj)
theorem snap_nil {H : AHeap} : Snap H (lt (.slice none 0 0)) (.iv (iInts [])) := .iv _ _ (.nil _ _)
mutual
theorem ids_idB : ∀ {x : AV}, x.idB (fun _ => false) = true → Ids 0 x
  | .iv x, _ => .iv x
  | .agg xs, h => .agg xs (ids_idL h)
  | .tup xs, h => .tup xs (ids_idL h)
  | .osl o off len sz, h => by simp [AV.idB] at h
  | .optr o off, h => by simp [AV.idB] at h
  | .fn f first caps, h => by
    have h' : idL (fun _ => false) first = true ∧ idL (fun _ => false) caps = true := by simpa [AV.idB] using h
    exact .fn f first caps (ids_idL h'.1) (ids_idL h'.2)
theorem ids_idL : ∀ {xs : List AV}, idL (fun _ => false) xs = true → ∀ (i : Nat) (x : AV), xs[i]? = some x → Ids 0 x
  | [], h, i, x, e => by simp at e
  | y :: ys, h, 0, x, e => by
    unfold idL at h; rw [Bool.and_eq_true] at h
    simp at e; subst e; exact ids_idB h.1
  | y :: ys, h, i + 1, x, e => by
    unfold idL at h; rw [Bool.and_eq_true] at h
    exact ids_idL h.2 i x (by simpa using e)
end
theorem idsA {xs : List AV} (h : idL (fun _ => false) xs = true) : ∀ a ∈ xs, Ids 0 a := fun a ha => by
  obtain ⟨i, hi⟩ := List.mem_iff_getElem?.1 ha
  exact ids_idL h i a hi
/-! ### Rows of numbers, one behind the other -/
def iFlat (ys : List Int) (n w : Nat) : IV := .sl (fun j => .lit (.int .i64 (ys.getD j 0))) n w
theorem snap_flat {H : AHeap} {o n w : Nat} {t : TypeId} {ys : List Int} (h : H[o]? = some (some ⟨t, ys.map lint⟩)) (hw : w ≠ 0) (hl : ys.length = n * w) : Snap H (.osl o 0 n w) (.iv (iFlat ys n w)) :=
  .iv _ _ (.osl o 0 n w _ _ (fun j => lt (.int .i64 (ys.getD j 0))) hw h (fun j hj => by rw [Nat.zero_add]; exact lint_at (by omega)) fun j _ => .iv _)
theorem lint_app2 (xs : List Int) (a b : Int) : xs.map lint ++ [lt (.int .i64 a), lt (.int .i64 b)] = (xs ++ [a, b]).map lint := by rw [List.map_append]; rfl
theorem lint_app3 (xs : List Int) (a b c : Int) : xs.map lint ++ [lt (.int .i64 a), lt (.int .i64 b), lt (.int .i64 c)] = (xs ++ [a, b, c]).map lint := by rw [List.map_append]; rfl
theorem lint_app4 (xs : List Int) (a b c d : Int) : xs.map lint ++ [lt (.int .i64 a), lt (.int .i64 b), lt (.int .i64 c), lt (.int .i64 d)] = (xs ++ [a, b, c, d]).map lint := by rw [List.map_append]; rfl
theorem lint_app5 (xs : List Int) (a b c d e : Int) : xs.map lint ++ [lt (.int .i64 a), lt (.int .i64 b), lt (.int .i64 c), lt (.int .i64 d), lt (.int .i64 e)] = (xs ++ [a, b, c, d, e]).map lint := by rw [List.map_append]; rfl
theorem take_lint {xs : List Int} {n : Nat} (h : xs.length ≤ n) : (xs.map lint).take n = xs.map lint := List.take_of_length_le (by simpa using h)
theorem flat_len {α : Type} {g : α → List Int} {w : Nat} (hg : ∀ x, (g x).length = w) (xs : List α) : (xs.flatMap g).length = xs.length * w := by
  induction xs with
  | nil => simp
  | cons x xs ih => rw [List.flatMap_cons, List.length_append, hg, ih, List.length_cons, Nat.succ_mul]; omega
theorem flat_getD {α : Type} {g : α → List Int} {w : Nat} (hg : ∀ x, (g x).length = w) {j : Nat} (hj : j < w) : ∀ (xs : List α) (i : Nat), (xs.flatMap g).getD (i * w + j) 0 = ((xs[i]?).map fun x => (g x).getD j 0).getD 0
  | [], i => by simp
  | x :: xs, 0 => by
    rw [List.flatMap_cons, List.getD_eq_getElem?_getD, List.getElem?_append_left (by rw [hg]; omega)]
    simp [List.getD_eq_getElem?_getD]
  | x :: xs, i + 1 => by
    have ih := flat_getD hg hj xs i
    rw [List.flatMap_cons, List.getD_eq_getElem?_getD, List.getElem?_append_right (by rw [hg, Nat.succ_mul]; omega), hg, show (i + 1) * w + j - w = i * w + j by rw [Nat.succ_mul]; omega, ← List.getD_eq_getElem?_getD, ih]
    simp
theorem flat_at {α : Type} {g : α → List Int} {w : Nat} (hg : ∀ x, (g x).length = w) (z : α) {j : Nat} (hj : j < w) (hz : (g z).getD j 0 = 0) (xs : List α) (i : Nat) : (xs.flatMap g).getD (i * w + j) 0 = (g (xs.getD i z)).getD j 0 := by
  rw [flat_getD hg hj]
  have e : xs.getD i z = (xs[i]?).getD z := List.getD_eq_getElem?_getD
  rw [e]
  cases xs[i]? with
  | some x => rfl
  | none => exact hz.symm
theorem range2 : List.range 2 = [0, 1] := rfl
theorem range3 : List.range 3 = [0, 1, 2] := rfl
theorem range4 : List.range 4 = [0, 1, 2, 3] := rfl
theorem range5 : List.range 5 = [0, 1, 2, 3, 4] := rfl
theorem range6 : List.range 6 = [0, 1, 2, 3, 4, 5] := rfl
theorem range7 : List.range 7 = [0, 1, 2, 3, 4, 5, 6] := rfl
theorem range8 : List.range 8 = [0, 1, 2, 3, 4, 5, 6, 7] := rfl
theorem range9 : List.range 9 = [0, 1, 2, 3, 4, 5, 6, 7, 8] := rfl
theorem range10 : List.range 10 = [0, 1, 2, 3, 4, 5, 6, 7, 8, 9] := rfl
theorem range11 : List.range 11 = [0, 1, 2, 3, 4, 5, 6, 7, 8, 9, 10] := rfl
theorem range12 : List.range 12 = [0, 1, 2, 3, 4, 5, 6, 7, 8, 9, 10, 11] := rfl
theorem range13 : List.range 13 = [0, 1, 2, 3, 4, 5, 6, 7, 8, 9, 10, 11, 12] := rfl
theorem range14 : List.range 14 = [0, 1, 2, 3, 4, 5, 6, 7, 8, 9, 10, 11, 12, 13] := rfl
theorem range15 : List.range 15 = [0, 1, 2, 3, 4, 5, 6, 7, 8, 9, 10, 11, 12, 13, 14] := rfl
theorem range16 : List.range 16 = [0, 1, 2, 3, 4, 5, 6, 7, 8, 9, 10, 11, 12, 13, 14, 15] := rfl
theorem range17 : List.range 17 = [0, 1, 2, 3, 4, 5, 6, 7, 8, 9, 10, 11, 12, 13, 14, 15, 16] := rfl
theorem range18 : List.range 18 = [0, 1, 2, 3, 4, 5, 6, 7, 8, 9, 10, 11, 12, 13, 14, 15, 16, 17] := rfl
theorem range19 : List.range 19 = [0, 1, 2, 3, 4, 5, 6, 7, 8, 9, 10, 11, 12, 13, 14, 15, 16, 17, 18] := rfl
theorem range20 : List.range 20 = [0, 1, 2, 3, 4, 5, 6, 7, 8, 9, 10, 11, 12, 13, 14, 15, 16, 17, 18, 19] := rfl
theorem range21 : List.range 21 = [0, 1, 2, 3, 4, 5, 6, 7, 8, 9, 10, 11, 12, 13, 14, 15, 16, 17, 18, 19, 20] := rfl
theorem range22 : List.range 22 = [0, 1, 2, 3, 4, 5, 6, 7, 8, 9, 10, 11, 12, 13, 14, 15, 16, 17, 18, 19, 20, 21] := rfl
theorem range23 : List.range 23 = [0, 1, 2, 3, 4, 5, 6, 7, 8, 9, 10, 11, 12, 13, 14, 15, 16, 17, 18, 19, 20, 21, 22] := rfl
theorem range24 : List.range 24 = [0, 1, 2, 3, 4, 5, 6, 7, 8, 9, 10, 11, 12, 13, 14, 15, 16, 17, 18, 19, 20, 21, 22, 23] := rfl
theorem range0 : List.range 0 = [] := rfl
theorem range1 : List.range 1 = [0] := rfl
/-! ### Maps from numbers to numbers, sets of numbers -/
def mInt (f : Int → Option Int) : MC := fun k => (f k).map fun x => .int .i64 x
def mSet (f : Int → Bool) : MC := fun k => if f k = true then some (.agg #[]) else none
def updF {α : Type} (f : Int → Option α) (k : Int) (v : α) : Int → Option α := fun j => if j = k then some v else f j
def delF {α : Type} (f : Int → Option α) (k : Int) : Int → Option α := fun j => if j = k then none else f j
def addF (f : Int → Bool) (k : Int) : Int → Bool := fun j => if j = k then true else f j
theorem mInt_nil : (fun _ => none : MC) = mInt fun _ => none := rfl
theorem mSet_nil : (fun _ => none : MC) = mSet fun _ => false := rfl
theorem mInt_upd (f : Int → Option Int) (k v : Int) : upd (mInt f) k (.int .i64 v) = mInt (updF f k v) := by
  funext j; unfold upd mInt updF; split <;> rfl
theorem mInt_del (f : Int → Option Int) (k : Int) : del (mInt f) k = mInt (delF f k) := by
  funext j; unfold del mInt delF; split <;> rfl
theorem mInt_get (f : Int → Option Int) (k : Int) : (mInt f k).getD (.int .i64 0) = .int .i64 ((f k).getD 0) := by
  unfold mInt; cases f k <;> rfl
theorem mInt_is (f : Int → Option Int) (k : Int) : (mInt f k).isSome = (f k).isSome := by
  unfold mInt; cases f k <;> rfl
theorem mSet_upd (f : Int → Bool) (k : Int) : upd (mSet f) k (.agg #[]) = mSet (addF f k) := by
  funext j; unfold upd mSet addF
  by_cases h : j = k
  · rw [if_pos h, if_pos (by rw [if_pos h])]
  · rw [if_neg h, if_neg h]
theorem mSet_get (f : Int → Bool) (k : Int) : (mSet f k).getD (.agg #[]) = .agg #[] := by
  unfold mSet; split <;> rfl
theorem mSet_is (f : Int → Bool) (k : Int) : (mSet f k).isSome = f k := by
  unfold mSet; cases h : f k <;> simp
theorem int_plain {x : Int} (h : -9223372036854775808 ≤ x ∧ x ≤ 9223372036854775807) : (mapR (.int .i64 x)).isSome = true := by
  show (if (Lit.int .i64 x).wf = true then some (DataW.lit (Lit.int .i64 x), ([] : List MemPlace)) else none).isSome = true; rw [if_pos (wf_int h.1 h.2)]; rfl
theorem unit_plain : (mapR (.agg #[])).isSome = true := by decide
theorem int_zero (w : World) : (zeroValue 3).run Try.prog w = .ok (.int .i64 0) w := by kernel_rfl
theorem unit_zero (w : World) : (zeroValue 60).run Try.prog w = .ok (.agg #[]) w := by kernel_rfl
set_option linter.unusedVariables false
set_option linter.unusedSimpArgs false

attribute [go_sem] Bool.true_beq Bool.false_beq beq_true beq_false cond_true cond_false dsts lapp_cons lapp_nil strip_mk strip_gd gix_some wantedS alF AS.ev AS.put putL arun drun alD kdOf isApp freeOp roOp extH List.any_cons List.any_nil Bool.or_false Bool.false_or Bool.or_true Bool.true_or aop abuiltin abox acells aload astore afieldAddr aindexAddr shiftA alen abin aint aun aconv apick_b apick_l apick_r amake aslice abound aappend anews abuildSlice abuild afill asets splice azero aplaces apart afield aindex aggCells anilS anilP aeq notNil aminmax ashift astr TyKind.agg BinOp.isShift AV.one List.set_cons_succ List.set_cons_zero List.getD_cons_succ List.getD_cons_zero List.getElem?_cons_succ List.getElem?_cons_zero List.getElem?_toArray Option.map_some Option.map_none Option.bind_some List.map_cons List.map_nil List.headD_cons List.tail_cons List.take_succ_cons List.drop_succ_cons List.drop_zero List.take_zero List.take_nil if_true if_false Bool.false_eq_true Bool.not_true Bool.not_false beq_self_eq_true reduceCtorEq bne_self_eq_false tt_0 tt_1 tt_2 tt_3 tt_4 tt_5 tt_6 tt_7 tt_8 tt_9 tt_10 tt_11 tt_12 tt_13 tt_14 tt_15 tt_16 tt_17 tt_18 tt_19 tt_20 tt_21 tt_22 tt_23 tt_24 tt_25 tt_26 tt_27 tt_28 tt_29 tt_30 tt_31 tt_32 tt_33 tt_34 tt_35 tt_36 tt_37 tt_38 tt_39 tt_40 tt_41 tt_42 tt_43 tt_44 tt_45 tt_46 tt_47 tt_48 tt_49 tt_50 tt_51 tt_52 tt_53 tt_54 tt_55 tt_56 tt_57 tt_58 tt_59 tt_60 tt_61 tt_62 tt_63 tt_64 tt_65 tt_66 tt_67 tt_68 tt_69 tt_70 tt_71 tt_72 tt_73 tt_74 tt_75 tt_76 tt_77 tt_78 tt_79 tt_80 tt_81 tt_82 tt_83 tt_84 tt_85 tt_86 tt_87 tt_88 tt_89 tt_90 tt_91 tt_92 tt_93 tt_94 tt_95 tt_96 tt_97 tt_98 tt_99 tt_100 tt_101 tt_102 tt_103 tt_104 tt_105 tt_106 tt_107 tt_108 tt_109 wrap_in ite_t ite_f dec_t dec_f beq_t beq_f bne_t bne_f nat_succ Int.toNat_natCast updS deadS and_true true_and ge_iff_le Nat.mul_one Nat.zero_add Nat.add_zero Nat.sub_zero lt_one_i lt_one_b lt_one_n List.all_cons List.all_nil Bool.and_true Bool.and_self Bool.true_and List.length_map List.length_append List.length_set lint_at lint_set lint_snoc lint_app2 lint_app3 lint_app4 lint_app5 take_mapL take_lint lint_one Nat.reduceMul Nat.reduceMod range0 range6 range7 range8 range9 range10 range11 range12 range13 range14 range15 range16 range17 range18 range19 range20 range21 range22 range23 range24 range1 range2 range3 range4 range5 List.length_cons List.length_nil Nat.reduceAdd Nat.reduceSub List.replicate_succ List.replicate_zero List.cons_append List.nil_append AV.rn rnL AV.idB idL okF okH selH atH AObj.rn newNo named rnL_lint idL_lint rnL_iv idL_iv rnL_app idL_app List.idxOf_cons_self List.idxOf_cons List.idxOf_nil List.contains_cons List.contains_nil List.elem_cons List.elem_nil Nat.not_lt_zero Nat.reduceLT Nat.reduceBEq decide_true decide_false Nat.succ_eq_add_one Nat.le_refl
end Go.Proofs.Ytmjkhjebeebahaa
