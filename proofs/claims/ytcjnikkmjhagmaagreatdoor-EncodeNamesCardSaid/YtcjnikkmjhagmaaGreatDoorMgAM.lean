import Derived.Test.YtcjnikkmjhagmaaGreatDoorMgAL
import Derived.Test.YtcjnikkmjhagmaaGreatDoorProg
import Derived.Test.YtcjnikkmjhagmaaGreatDoorMgAF
namespace Go.Proofs.YtcjnikkmjhagmaaGreatDoor
open Go.RowKit
set_option linter.unusedVariables false
set_option linter.unusedSimpArgs false
section
variable {P : Program} {m : Nat} {G0 : Gh} {H : AHeap}
def ADM0 (P : Program) (m : Nat) (G0 : Gh) (ops : Array Oper) (H : AHeap) (K : List AV → MS → Prop) : List Oper → List Kd → List AV → MS → Prop
  | [], _, fr, M => K fr M
  | o :: l, al, fr, M => ∃ x M', Op3 P m G0 ops H o fr M M' x (al.headD .free).al ∧ ADM0 P m G0 ops H K l al.tail (putL fr o.dst x) M'
theorem op3_strip {ops : List Oper} {n : Nat} (hn : topD (dsts ops) ≤ n) {o : Oper} {fr : List AV} {M M' : MS} {x : AV} {b : Bool} (h : Op3 P m G0 (idB n) H (strip (dsts ops) o) fr M M' x b) : Op3 P m G0 ops.toArray H o fr M M' x b := by
  cases h with
  | skip e h2 => exact .skip e (by rw [← awanted_strip hn]; exact h2)
  | does x e h1 h2 => exact .does _ e (by rw [← awanted_strip hn]; exact h1) (does_strip hn h2)
  | turn x h1 h2 =>
    refine .turn _ (by rw [← awanted_strip hn]; exact h1) fun Q G a w K hl hM hi hk => ?_
    rw [← wp_strip (dsts ops)]
    exact h2 Q G a w K hl hM hi ⟨hk.1, fun t ht => hk.2 t (by rw [← looks_strip hn]; exact ht)⟩
theorem ADM0_strip {ops : List Oper} {n : Nat} (hn : topD (dsts ops) ≤ n) {K : List AV → MS → Prop} : ∀ {l : List Oper} {al : List Kd} {fr : List AV} {M : MS}, ADM0 P m G0 (idB n) H K (l.map (strip (dsts ops))) al fr M → ADM0 P m G0 ops.toArray H K l al fr M
  | [], al, fr, M, h => h
  | o :: l, al, fr, M, h => by
    obtain ⟨x, M', h1, h2⟩ := h
    exact ⟨x, M', op3_strip hn h1, ADM0_strip hn h2⟩
theorem ADM0.fns {ops : Array Oper} {K : List AV → MS → Prop} : ∀ {l : List Oper} {al : List Kd} {fr : List AV} {M : MS}, ADM0 P m G0 ops H K l al fr M →
    ∃ (X : Nat → AV) (F : Nat → List AV) (Mk : Nat → MS), F 0 = fr ∧ Mk 0 = M ∧ K (F l.length) (Mk l.length) ∧ ∀ j o, l[j]? = some o → Op3 P m G0 ops H o (F j) (Mk j) (Mk (j + 1)) (X j) (al.getD j .free).al ∧ F (j + 1) = putL (F j) o.dst (X j)
  | [], al, fr, M, h => ⟨fun _ => uD, fun _ => fr, fun _ => M, rfl, rfl, h, fun j o e => by simp at e⟩
  | o :: l, al, fr, M, h => by
    obtain ⟨x, M', h1, h2⟩ := h
    obtain ⟨X, F, Mk, e1, e2, e3, e4⟩ := ADM0.fns h2
    refine ⟨consF x X, consF fr F, consF M Mk, rfl, rfl, e3, fun j o' e => ?_⟩
    cases j with
    | zero =>
      simp only [List.getElem?_cons_zero, Option.some.injEq] at e; subst e
      refine ⟨?_, e1⟩
      show Op3 P m G0 ops H o fr M (Mk 0) x (al.getD 0 .free).al
      rw [e2]
      cases al <;> exact h1
    | succ j =>
      simp only [List.getElem?_cons_succ] at e
      have := e4 j o' e
      cases al <;> exact this
def ADX (P : Program) (m : Nat) (H : AHeap) (K : List AV → MS → Prop) (p : List Oper × List Kd × List AV × MS) : Prop := ∀ n, p.2.2.1.length ≤ n → ∀ G0, ADM0 P m G0 (idB n) H K p.1 p.2.1 p.2.2.1 p.2.2.2
def mapOp : Op → Bool
  | .mapUpdate _ _ _ _ | .lookup _ _ _ _ => true
  | .call c => match c.callee with
    | .builtin .delete => true
    | _ => false
  | _ => false
def alM (l : List Oper) : List Kd := l.map fun o => if mapOp o.op = true then .grow else .free
variable {tt : TT} {fr : List AV} {o : Oper} {l : List Oper} {al : List Kd} {K : List AV → MS → Prop} {M : MS}
theorem ADX_nil (h : K fr M) : ADX P m H K ([], al, fr, M) := fun n hn G0 => h
theorem ADX_id {p : List Oper × List Kd × List AV × MS} (h : ADX P m H K p) : ADX P m H K p := h
theorem ADX_op (hT : TyOK P tt) (hr : roOp o.op = true) (hw : wantedS fr o = some true) (h : match aop tt ⟨fr, H⟩ o with | some (x, _) => ADX P m H K (l, al, putL fr o.dst x, M) | none => False) : ADX P m H K (o :: l, .free :: al, fr, M) := fun n hn G0 => by
  cases hx : aop tt ⟨fr, H⟩ o with
  | none => rw [hx] at h; exact h.elim
  | some p =>
    obtain ⟨x, H'⟩ := p
    rw [hx] at h
    have := aop_ro hr hx
    subst this
    exact ⟨x, M, .does x rfl (wanted_iff hn hw) (does_aop hT hx), h n (by show (putL _ _ _).length ≤ n; rw [putL_len]; exact hn) G0⟩
theorem ADX_skip (hw : wantedS fr o = some false) (h : ADX P m H K (l, al, putL fr o.dst uD, M)) : ADX P m H K (o :: l, .free :: al, fr, M) := fun n hn G0 =>
  ⟨uD, M, .skip rfl (wanted_iff hn hw), h n (by show (putL _ _ _).length ≤ n; rw [putL_len]; exact hn) G0⟩
theorem AX_drawM {Q : Exit → XS → Prop} (hmx : P.follows .mixedOrders = true) {id : Nat} {ops : List Oper} (hord : ordOK ops.toArray ops.length (alM ops) = true)
    (h : ∀ (K : List AV → MS → Prop), (∀ F M', Q .normal ⟨F, H, M'⟩ → K F M') → ADX P m H K (ops.map (strip (dsts ops)), alM ops, fr, M)) : AX P m (.region id ops.toArray true) Q ⟨fr, H, M⟩ := fun G0 G a w hm hl0 hM hr => by
  have hsz : ops.toArray.size = ops.length := by simp
  have ord : Ord ops.toArray ops.toArray.size (alM ops) := by rw [hsz]; exact ord_of hord
  obtain ⟨X, F, Mk, e1, e2, e3, e4⟩ := (ADM0_strip (n := max fr.length (topD (dsts ops))) (Nat.le_max_right _ _) (h (fun F M' => Q .normal ⟨F, H, M'⟩) (fun _ _ h => h) (max fr.length (topD (dsts ops))) (Nat.le_max_left _ _) G0)).fns
  refine wp_region_any hmx ?_
  refine any3 (m := m) (G0 := G0) (H := H) (X := X) (F := F) (Mk := Mk) ord ⟨fun k o ho => e4 k o (by simpa using ho)⟩ hm (R := PostX m G0 Q) (fun G' a' w' k1 k2 k3 => ⟨G', ⟨F ops.toArray.size, H, Mk ops.toArray.size⟩, k1, k2, hm, k3, by rw [hsz]; exact e3⟩) ops.toArray.size (Array.replicate ops.toArray.size false) a { w with drawn := w.drawn + 1 } G 0 ?_ ?_ hr.defers ?_ (Nat.zero_le _) ?_ hr.inv.drew hl0 (by rw [e2]; exact hM)
  · simp [left]
  · refine ⟨by simp, fun j hj => ?_⟩
    simp [Array.getD] at hj
  · refine ⟨by rw [e1]; have := hr.fr.1; simp at this; exact this.symm, fun t j ht hj hl => ?_, fun t ht _ => ?_⟩
    · simp [Array.getD] at hl
    · rw [e1, arr_getD]; exact hr.fr.getD t
  · intro j hj ha
    simp [Array.getD]
theorem AX_drawM1 {Q : Exit → XS → Prop} (hmx : P.follows .mixedOrders = true) {id : Nat} {ops : List Oper} (hany : (ops.any fun o => mapOp o.op) = true) (hord : ordOK ops.toArray ops.length (alM ops) = true)
    (h : ∀ (K : List AV → MS → Prop), (∀ F M', Q .normal ⟨F, H, M'⟩ → K F M') → ADX P m H K (ops.map (strip (dsts ops)), alM ops, fr, M)) : AX P m (.region id ops.toArray true) Q ⟨fr, H, M⟩ := AX_drawM hmx hord h
end
section
variable {m : Nat} {H : AHeap} {fr : List AV} {l : List Oper} {al : List Kd} {K : List AV → MS → Prop} {M : MS} {t e : TypeId} {d : Option Tmp} {ty : TypeId} {pos : String} {after : Array Edge} {g : Option (Nat × Bool)}
theorem looks_lit {n : Nat} {o : Oper} {a : Act} {G : Gh} {H : AHeap} (hl : Looks (idB n) o H.length G fr a) {x : Operand} (hx : x ∈ o.op.operands) {v : Value} (h : AS.ev ⟨fr, H⟩ x = lt v) : a.eval x = v := by
  have := hl.ev (H := H) hx; rw [h] at this; exact this.lit_inv
theorem ADX_turn {P : Program} {o : Oper} {i b k k' : Nat} {F F' : MC} {v : Value} (hM : M[i]? = some (b, k, F)) (hw : wantedS fr o = some true)
    (hrun : ∀ (n : Nat) (a : Act) (w : World) G, Looks (idB n) o H.length G fr a → IMap w b k F → ∃ w', ((execOp a.eval o).run P w = .ok (.value v) w' ∨ ((execOp a.eval o).run P w = .ok .skip w' ∧ v = undef)) ∧ IMap w' b k' F' ∧ w.grownBy w' (some b))
    (h : ADX P m H K (l, al, putL fr o.dst (lt v), M.set i (b, k', F'))) : ADX P m H K (o :: l, .grow :: al, fr, M) := fun n hn G0 => by
  refine ⟨lt v, M.set i (b, k', F'), .turn _ (wanted_iff hn hw) fun Q G a w K' hl hMM hi hlk hk => ?_, h n (by show (putL _ _ _).length ≤ n; rw [putL_len]; exact hn) G0⟩
  obtain ⟨c1, c2, c3, ob0, c4⟩ := hMM.at hi hM
  obtain ⟨w', r1, r2, r3⟩ := hrun n a w G hlk c3
  obtain ⟨ob, o1, o2⟩ := r2.at
  have hlt : i < M.length := (List.getElem?_eq_some_iff.1 hM).1
  have hfin := hk (fun c => if c = b then some ob else G.kp c) v w' (leb_block hl ob c1 c2) ⟨fun e he => by
    obtain ⟨j, hj⟩ := List.mem_iff_getElem?.1 he
    by_cases hji : i = j
    · subst hji
      rw [List.getElem?_set_self hlt] at hj; cases hj
      exact ⟨c1, c2, ob, if_pos rfl, o2⟩
    · rw [List.getElem?_set_ne hji] at hj
      obtain ⟨h1, h2, ob', h3, h4⟩ := hMM.one e (List.mem_iff_getElem?.2 ⟨j, hj⟩)
      have hne : e.1 ≠ b := fun heq => by
        have ht := List.pairwise_iff_getElem.1 hMM.two
        obtain ⟨l1, e1⟩ := List.getElem?_eq_some_iff.1 hM
        obtain ⟨l2, e2⟩ := List.getElem?_eq_some_iff.1 hj
        rcases Nat.lt_or_gt_of_ne hji with h5 | h5
        · have := ht i j l1 l2 h5; rw [e1, e2] at this; exact this heq.symm
        · have := ht j i l2 l1 h5; rw [e1, e2] at this; exact this heq
      exact ⟨h1, h2, ob', by show (if e.1 = b then _ else _) = _; rw [if_neg hne]; exact h3, h4⟩, by
    refine List.pairwise_iff_getElem.2 fun p q hp hq hpq => ?_
    have ht := List.pairwise_iff_getElem.1 hMM.two
    have e1 : ∀ (p : Nat) (hp : p < (M.set i (b, k', F')).length), ((M.set i (b, k', F'))[p]).1 = (M[p]'(by simpa using hp)).1 := fun p hp => by
      rw [List.getElem_set]
      split
      · rename_i hh; subst hh
        obtain ⟨l1, e1⟩ := List.getElem?_eq_some_iff.1 hM
        rw [e1]
      · rfl
    show ((M.set i (b, k', F'))[p]).1 ≠ ((M.set i (b, k', F'))[q]).1
    rw [e1, e1]
    exact ht p q (by simpa using hp) (by simpa using hq) hpq⟩ (hi.block_set c2 (obj_ne hi c4) o1 r3) (.iv _ _ (.lit _))
  unfold Oper.wp
  rcases r1 with r1 | ⟨r1, rfl⟩
  · rw [r1]; exact hfin
  · rw [r1]; exact hfin
theorem ra_lits {n : Nat} {G : Gh} {us : List Value} {v : Value} (h : RA n G (.agg (us.map lt)) v) : v = .agg us.toArray := by
  cases h with
  | agg _ vs h1 h2 h3 =>
    congr 2
    refine List.ext_getElem? fun j => ?_
    rw [List.length_map] at h1
    rcases Nat.lt_or_ge j vs.length with hj | hj
    · have hj' : j < us.length := by omega
      have := (h2 j (lt us[j]) vs[j] (by rw [List.getElem?_map, List.getElem?_eq_getElem hj']; rfl) (List.getElem?_eq_getElem hj)).lit_inv
      rw [List.getElem?_eq_getElem hj, List.getElem?_eq_getElem hj', this]
    · rw [List.getElem?_eq_none hj, List.getElem?_eq_none (by omega)]
theorem ADX_mputA {mo x v : Operand} (hw : wantedS fr ⟨d, .mapUpdate t mo x v, ty, pos, after, g⟩ = some true) (ht : Tryz.prog.underlying t = some (.map 3 e)) {i b n : Nat} {F : MC} (hm : AS.ev ⟨fr, H⟩ mo = lt (.map (some b))) (hM : M[i]? = some (b, n, F))
    {k : Int} (hx : AS.ev ⟨fr, H⟩ x = lt (.int .i64 k)) (k1 : -9223372036854775808 ≤ k ∧ k ≤ 9223372036854775807) {us : List Value} (hv : AS.ev ⟨fr, H⟩ v = .agg (us.map lt)) (hu : (mapR (.agg us.toArray)).isSome = true) (hn : n < maxLen)
    (h : ADX Tryz.prog m H K (l, al, putL fr d uD, M.set i (b, n + 1, upd F k (.agg us.toArray)))) : ADX Tryz.prog m H K (⟨d, .mapUpdate t mo x v, ty, pos, after, g⟩ :: l, .grow :: al, fr, M) :=
  ADX_turn (v := undef) hM hw (fun N a w G hl hown => by
    obtain ⟨w', hrun, h1, h2⟩ := hown.store t e ht hn k1.1 k1.2 hu
    have hv' := hl.ev (H := H) (x := v) (by simp [Op.operands])
    rw [hv] at hv'
    exact ⟨w', .inr ⟨by simp [execOp, looks_lit hl (x := mo) (by simp [Op.operands]) hm, looks_lit hl (x := x) (by simp [Op.operands]) hx, ra_lits hv', hrun, Result.andThen], rfl⟩, h1, h2⟩) h
end
end Go.Proofs.YtcjnikkmjhagmaaGreatDoor
namespace Go.Proofs.YtcjnikkmjhagmaaGreatDoor
open Go.RowKit
def tyTab : List (Option TyRow) := [
  none,
  none,
  some { kind := TyKind.int IntKind.i64, size := 1, bytes := 8, zero := [Value.int IntKind.i64 0] },
  some { kind := TyKind.int IntKind.i64, size := 1, bytes := 8, zero := [Value.int IntKind.i64 0] },
  some { kind := TyKind.bool, size := 1, bytes := 1, zero := [Value.bool false] },
  some { kind := TyKind.int IntKind.u8, size := 1, bytes := 1, zero := [Value.int IntKind.u8 0] },
  none,
  some { kind := TyKind.st [(2, 0), (3, 1), (4, 2), (6, 3)], size := 4, bytes := 24, zero := [Value.int IntKind.i64 0, Value.int IntKind.i64 0, Value.bool false, Value.int IntKind.u8 0] },
  none,
  some { kind := TyKind.str, size := 1, bytes := 16, zero := [Value.string ByteArray.empty] },
  none,
  none,
  some { kind := TyKind.int IntKind.u64, size := 1, bytes := 8, zero := [Value.int IntKind.u64 0] },
  some { kind := TyKind.st [(9, 0), (12, 1)], size := 2, bytes := 24, zero := [Value.string ByteArray.empty, Value.int IntKind.u64 0] },
  none,
  none,
  none,
  none,
  some { kind := TyKind.st [(17, 0)], size := 1, bytes := 8, zero := [Value.pointer none] },
  none,
  some { kind := TyKind.other, size := 1, bytes := 16, zero := [Value.nilIface] },
  some { kind := TyKind.int IntKind.i32, size := 1, bytes := 4, zero := [Value.int IntKind.i32 0] },
  some { kind := TyKind.sl 102, size := 1, bytes := 24, zero := [Value.slice none 0 0] },
  some { kind := TyKind.st [(3, 0), (3, 1), (3, 2), (22, 3)], size := 4, bytes := 48, zero := [Value.int IntKind.i64 0, Value.int IntKind.i64 0, Value.int IntKind.i64 0, Value.slice none 0 0] },
  some { kind := TyKind.st [(3, 0), (3, 1), (3, 2), (22, 3)], size := 4, bytes := 48, zero := [Value.int IntKind.i64 0, Value.int IntKind.i64 0, Value.int IntKind.i64 0, Value.slice none 0 0] },
  some { kind := TyKind.sl 56, size := 1, bytes := 24, zero := [Value.slice none 0 0] },
  some { kind := TyKind.sl 4, size := 1, bytes := 24, zero := [Value.slice none 0 0] },
  none,
  none,
  some { kind := TyKind.sl 57, size := 1, bytes := 24, zero := [Value.slice none 0 0] },
  some { kind := TyKind.st [(3, 0), (29, 1)], size := 2, bytes := 32, zero := [Value.int IntKind.i64 0, Value.slice none 0 0] },
  some { kind := TyKind.st [(3, 0), (29, 1)], size := 2, bytes := 32, zero := [Value.int IntKind.i64 0, Value.slice none 0 0] },
  some { kind := TyKind.int IntKind.i64, size := 1, bytes := 8, zero := [Value.int IntKind.i64 0] },
  none,
  none,
  none,
  none,
  none,
  none,
  some { kind := TyKind.arr 2 31, size := 4, bytes := 64, zero := [Value.int IntKind.i64 0, Value.slice none 0 0, Value.int IntKind.i64 0, Value.slice none 0 0] },
  none,
  some { kind := TyKind.sl 9, size := 1, bytes := 24, zero := [Value.slice none 0 0] },
  none,
  none,
  none,
  none,
  none,
  none,
  none,
  none,
  some { kind := TyKind.st [(3, 0), (3, 1)], size := 2, bytes := 16, zero := [Value.int IntKind.i64 0, Value.int IntKind.i64 0] },
  some { kind := TyKind.st [(3, 0), (3, 1)], size := 2, bytes := 16, zero := [Value.int IntKind.i64 0, Value.int IntKind.i64 0] },
  none,
  none,
  none,
  some { kind := TyKind.st [(3, 0), (3, 1), (3, 2), (3, 3), (3, 4)], size := 5, bytes := 40, zero := [Value.int IntKind.i64 0, Value.int IntKind.i64 0, Value.int IntKind.i64 0, Value.int IntKind.i64 0, Value.int IntKind.i64 0] },
  some { kind := TyKind.st [(3, 0), (3, 1), (3, 2), (3, 3), (3, 4)], size := 5, bytes := 40, zero := [Value.int IntKind.i64 0, Value.int IntKind.i64 0, Value.int IntKind.i64 0, Value.int IntKind.i64 0, Value.int IntKind.i64 0] },
  some { kind := TyKind.sl 3, size := 1, bytes := 24, zero := [Value.slice none 0 0] },
  none,
  none,
  none,
  none,
  some { kind := TyKind.sl 108, size := 1, bytes := 24, zero := [Value.slice none 0 0] },
  none,
  none,
  none,
  none,
  none,
  none,
  none,
  none,
  none,
  none,
  none,
  none,
  none,
  some { kind := TyKind.st [(3, 0), (3, 1), (3, 2)], size := 3, bytes := 24, zero := [Value.int IntKind.i64 0, Value.int IntKind.i64 0, Value.int IntKind.i64 0] },
  some { kind := TyKind.st [(3, 0), (3, 1), (3, 2)], size := 3, bytes := 24, zero := [Value.int IntKind.i64 0, Value.int IntKind.i64 0, Value.int IntKind.i64 0] },
  none,
  none,
  none,
  none,
  none,
  some { kind := TyKind.other, size := 1, bytes := 8, zero := [Value.nilFunc] },
  none,
  none,
  some { kind := TyKind.sl 88, size := 1, bytes := 24, zero := [Value.slice none 0 0] },
  none,
  some { kind := TyKind.st [(3, 0), (3, 1), (3, 2)], size := 3, bytes := 24, zero := [Value.int IntKind.i64 0, Value.int IntKind.i64 0, Value.int IntKind.i64 0] },
  some { kind := TyKind.sl 29, size := 1, bytes := 24, zero := [Value.slice none 0 0] },
  none,
  none,
  none,
  some { kind := TyKind.other, size := 1, bytes := 8, zero := [Value.nilFunc] },
  none,
  none,
  none,
  none,
  some { kind := TyKind.arr 4 3, size := 4, bytes := 32, zero := [Value.int IntKind.i64 0, Value.int IntKind.i64 0, Value.int IntKind.i64 0, Value.int IntKind.i64 0] },
  none,
  none,
  some { kind := TyKind.st [(3, 0), (3, 1), (3, 2), (3, 3)], size := 4, bytes := 32, zero := [Value.int IntKind.i64 0, Value.int IntKind.i64 0, Value.int IntKind.i64 0, Value.int IntKind.i64 0] },
  some { kind := TyKind.st [(3, 0), (3, 1), (3, 2), (3, 3)], size := 4, bytes := 32, zero := [Value.int IntKind.i64 0, Value.int IntKind.i64 0, Value.int IntKind.i64 0, Value.int IntKind.i64 0] },
  none,
  none,
  none,
  none,
  none,
  some { kind := TyKind.arr 2 3, size := 2, bytes := 16, zero := [Value.int IntKind.i64 0, Value.int IntKind.i64 0] },
  none,
  none,
  none,
  none,
  none,
  none,
  none,
  none,
  some { kind := TyKind.other, size := 1, bytes := 8, zero := [Value.nilFunc] },
  none,
  none,
  none,
  none,
  none,
  none,
  none,
  none,
  none,
  some { kind := TyKind.map 3 3, size := 1, bytes := 8, zero := [Value.map none] },
  none,
  none,
  none,
  none,
  none,
  some { kind := TyKind.st [(3, 0), (3, 1), (3, 2), (22, 3)], size := 4, bytes := 48, zero := [Value.int IntKind.i64 0, Value.int IntKind.i64 0, Value.int IntKind.i64 0, Value.slice none 0 0] },
  none,
  some { kind := TyKind.sl 5, size := 1, bytes := 24, zero := [Value.slice none 0 0] },
  some { kind := TyKind.other, size := 1, bytes := 8, zero := [Value.nilFunc] },
  none,
  none,
  none,
  some { kind := TyKind.map 3 141, size := 1, bytes := 8, zero := [Value.map none] },
  some { kind := TyKind.st [], size := 0, bytes := 0, zero := [] },
  none,
  some { kind := TyKind.map 3 56, size := 1, bytes := 8, zero := [Value.map none] },
  none,
  none,
  none,
  none,
  none,
  none,
  none,
  none,
  none,
  none,
  none,
  none,
  none,
  none,
  some { kind := TyKind.int IntKind.i64, size := 1, bytes := 8, zero := [Value.int IntKind.i64 0] },
  none,
  none,
  none,
  some { kind := TyKind.other, size := 1, bytes := 8, zero := [Value.nilFunc] },
  none,
  some { kind := TyKind.int IntKind.u64, size := 1, bytes := 8, zero := [Value.int IntKind.u64 0] },
  none,
  none,
  none,
  none,
  none,
  none,
  none,
  some { kind := TyKind.int IntKind.u64, size := 1, bytes := 8, zero := [Value.int IntKind.u64 0] },
  none,
  none,
  some { kind := TyKind.int IntKind.u32, size := 1, bytes := 4, zero := [Value.int IntKind.u32 0] },
  none,
  none,
  none,
  none,
  none,
  none,
  none,
  none,
  none,
  none,
  none,
  none,
  none,
  none,
  some { kind := TyKind.ptr 3, size := 1, bytes := 8, zero := [Value.pointer none] },
  none,
  none,
  none,
  none,
  none,
  none,
  some { kind := TyKind.st [(17, 0), (17, 1), (17, 2), (9, 3)], size := 4, bytes := 40, zero := [Value.pointer none, Value.pointer none, Value.pointer none, Value.string ByteArray.empty] },
  none,
  none,
  some { kind := TyKind.st [(199, 0)], size := 0, bytes := 0, zero := [] },
  none,
  none,
  none,
  none,
  some { kind := TyKind.ptr 5, size := 1, bytes := 8, zero := [Value.pointer none] },
  none,
  none,
  some { kind := TyKind.st [(12, 0), (12, 1), (175, 2), (202, 3), (5, 4), (5, 5), (203, 6), (204, 7), (205, 8), (206, 9), (207, 10)], size := 11, bytes := 48, zero := [Value.int IntKind.u64 0, Value.int IntKind.u64 0, Value.int IntKind.u32 0, Value.int IntKind.u8 0, Value.int IntKind.u8 0, Value.int IntKind.u8 0, Value.int IntKind.u8 0, Value.nilFunc, Value.pointer none, Value.int IntKind.i32 0, Value.int IntKind.i32 0] },
  none,
  none]
def tt : TT := fun t => (tyTab[t]?).getD none
theorem tyTab_ok : ((List.range 211).map fun t => if ((tyTab[t]?).getD none).isSome then tyRow Tryz.prog t else none) = tyTab := by kernel_rfl
theorem tyOK : TyOK Tryz.prog tt := fun t r h => by
  have h' : (tyTab[t]?).getD none = some r := h
  have hlt : t < 211 := by
    rcases Nat.lt_or_ge t 211 with h1 | h1
    · exact h1
    · rw [List.getElem?_eq_none (by show _ ≤ t; exact h1)] at h'; cases h'
  have e := congrArg (fun l => l[t]?) tyTab_ok
  simp only [List.getElem?_map, List.getElem?_range hlt, Option.map_some] at e
  rw [h'] at e
  rw [← e] at h'
  simpa using h'
theorem tt_2 : tt 2 = some { kind := TyKind.int IntKind.i64, size := 1, bytes := 8, zero := [Value.int IntKind.i64 0] } := rfl
theorem tt_3 : tt 3 = some { kind := TyKind.int IntKind.i64, size := 1, bytes := 8, zero := [Value.int IntKind.i64 0] } := rfl
theorem tt_4 : tt 4 = some { kind := TyKind.bool, size := 1, bytes := 1, zero := [Value.bool false] } := rfl
theorem tt_5 : tt 5 = some { kind := TyKind.int IntKind.u8, size := 1, bytes := 1, zero := [Value.int IntKind.u8 0] } := rfl
theorem tt_7 : tt 7 = some { kind := TyKind.st [(2, 0), (3, 1), (4, 2), (6, 3)], size := 4, bytes := 24, zero := [Value.int IntKind.i64 0, Value.int IntKind.i64 0, Value.bool false, Value.int IntKind.u8 0] } := rfl
theorem tt_9 : tt 9 = some { kind := TyKind.str, size := 1, bytes := 16, zero := [Value.string ByteArray.empty] } := rfl
theorem tt_12 : tt 12 = some { kind := TyKind.int IntKind.u64, size := 1, bytes := 8, zero := [Value.int IntKind.u64 0] } := rfl
theorem tt_13 : tt 13 = some { kind := TyKind.st [(9, 0), (12, 1)], size := 2, bytes := 24, zero := [Value.string ByteArray.empty, Value.int IntKind.u64 0] } := rfl
theorem tt_18 : tt 18 = some { kind := TyKind.st [(17, 0)], size := 1, bytes := 8, zero := [Value.pointer none] } := rfl
theorem tt_20 : tt 20 = some { kind := TyKind.other, size := 1, bytes := 16, zero := [Value.nilIface] } := rfl
theorem tt_21 : tt 21 = some { kind := TyKind.int IntKind.i32, size := 1, bytes := 4, zero := [Value.int IntKind.i32 0] } := rfl
theorem tt_22 : tt 22 = some { kind := TyKind.sl 102, size := 1, bytes := 24, zero := [Value.slice none 0 0] } := rfl
theorem tt_23 : tt 23 = some { kind := TyKind.st [(3, 0), (3, 1), (3, 2), (22, 3)], size := 4, bytes := 48, zero := [Value.int IntKind.i64 0, Value.int IntKind.i64 0, Value.int IntKind.i64 0, Value.slice none 0 0] } := rfl
theorem tt_24 : tt 24 = some { kind := TyKind.st [(3, 0), (3, 1), (3, 2), (22, 3)], size := 4, bytes := 48, zero := [Value.int IntKind.i64 0, Value.int IntKind.i64 0, Value.int IntKind.i64 0, Value.slice none 0 0] } := rfl
theorem tt_25 : tt 25 = some { kind := TyKind.sl 56, size := 1, bytes := 24, zero := [Value.slice none 0 0] } := rfl
theorem tt_26 : tt 26 = some { kind := TyKind.sl 4, size := 1, bytes := 24, zero := [Value.slice none 0 0] } := rfl
theorem tt_29 : tt 29 = some { kind := TyKind.sl 57, size := 1, bytes := 24, zero := [Value.slice none 0 0] } := rfl
theorem tt_30 : tt 30 = some { kind := TyKind.st [(3, 0), (29, 1)], size := 2, bytes := 32, zero := [Value.int IntKind.i64 0, Value.slice none 0 0] } := rfl
theorem tt_31 : tt 31 = some { kind := TyKind.st [(3, 0), (29, 1)], size := 2, bytes := 32, zero := [Value.int IntKind.i64 0, Value.slice none 0 0] } := rfl
theorem tt_32 : tt 32 = some { kind := TyKind.int IntKind.i64, size := 1, bytes := 8, zero := [Value.int IntKind.i64 0] } := rfl
theorem tt_39 : tt 39 = some { kind := TyKind.arr 2 31, size := 4, bytes := 64, zero := [Value.int IntKind.i64 0, Value.slice none 0 0, Value.int IntKind.i64 0, Value.slice none 0 0] } := rfl
theorem tt_41 : tt 41 = some { kind := TyKind.sl 9, size := 1, bytes := 24, zero := [Value.slice none 0 0] } := rfl
theorem tt_50 : tt 50 = some { kind := TyKind.st [(3, 0), (3, 1)], size := 2, bytes := 16, zero := [Value.int IntKind.i64 0, Value.int IntKind.i64 0] } := rfl
theorem tt_51 : tt 51 = some { kind := TyKind.st [(3, 0), (3, 1)], size := 2, bytes := 16, zero := [Value.int IntKind.i64 0, Value.int IntKind.i64 0] } := rfl
theorem tt_55 : tt 55 = some { kind := TyKind.st [(3, 0), (3, 1), (3, 2), (3, 3), (3, 4)], size := 5, bytes := 40, zero := [Value.int IntKind.i64 0, Value.int IntKind.i64 0, Value.int IntKind.i64 0, Value.int IntKind.i64 0, Value.int IntKind.i64 0] } := rfl
theorem tt_56 : tt 56 = some { kind := TyKind.st [(3, 0), (3, 1), (3, 2), (3, 3), (3, 4)], size := 5, bytes := 40, zero := [Value.int IntKind.i64 0, Value.int IntKind.i64 0, Value.int IntKind.i64 0, Value.int IntKind.i64 0, Value.int IntKind.i64 0] } := rfl
theorem tt_57 : tt 57 = some { kind := TyKind.sl 3, size := 1, bytes := 24, zero := [Value.slice none 0 0] } := rfl
theorem tt_62 : tt 62 = some { kind := TyKind.sl 108, size := 1, bytes := 24, zero := [Value.slice none 0 0] } := rfl
theorem tt_76 : tt 76 = some { kind := TyKind.st [(3, 0), (3, 1), (3, 2)], size := 3, bytes := 24, zero := [Value.int IntKind.i64 0, Value.int IntKind.i64 0, Value.int IntKind.i64 0] } := rfl
theorem tt_77 : tt 77 = some { kind := TyKind.st [(3, 0), (3, 1), (3, 2)], size := 3, bytes := 24, zero := [Value.int IntKind.i64 0, Value.int IntKind.i64 0, Value.int IntKind.i64 0] } := rfl
theorem tt_83 : tt 83 = some { kind := TyKind.other, size := 1, bytes := 8, zero := [Value.nilFunc] } := rfl
theorem tt_86 : tt 86 = some { kind := TyKind.sl 88, size := 1, bytes := 24, zero := [Value.slice none 0 0] } := rfl
theorem tt_88 : tt 88 = some { kind := TyKind.st [(3, 0), (3, 1), (3, 2)], size := 3, bytes := 24, zero := [Value.int IntKind.i64 0, Value.int IntKind.i64 0, Value.int IntKind.i64 0] } := rfl
theorem tt_89 : tt 89 = some { kind := TyKind.sl 29, size := 1, bytes := 24, zero := [Value.slice none 0 0] } := rfl
theorem tt_93 : tt 93 = some { kind := TyKind.other, size := 1, bytes := 8, zero := [Value.nilFunc] } := rfl
theorem tt_98 : tt 98 = some { kind := TyKind.arr 4 3, size := 4, bytes := 32, zero := [Value.int IntKind.i64 0, Value.int IntKind.i64 0, Value.int IntKind.i64 0, Value.int IntKind.i64 0] } := rfl
theorem tt_101 : tt 101 = some { kind := TyKind.st [(3, 0), (3, 1), (3, 2), (3, 3)], size := 4, bytes := 32, zero := [Value.int IntKind.i64 0, Value.int IntKind.i64 0, Value.int IntKind.i64 0, Value.int IntKind.i64 0] } := rfl
theorem tt_102 : tt 102 = some { kind := TyKind.st [(3, 0), (3, 1), (3, 2), (3, 3)], size := 4, bytes := 32, zero := [Value.int IntKind.i64 0, Value.int IntKind.i64 0, Value.int IntKind.i64 0, Value.int IntKind.i64 0] } := rfl
theorem tt_108 : tt 108 = some { kind := TyKind.arr 2 3, size := 2, bytes := 16, zero := [Value.int IntKind.i64 0, Value.int IntKind.i64 0] } := rfl
theorem tt_117 : tt 117 = some { kind := TyKind.other, size := 1, bytes := 8, zero := [Value.nilFunc] } := rfl
theorem tt_127 : tt 127 = some { kind := TyKind.map 3 3, size := 1, bytes := 8, zero := [Value.map none] } := rfl
theorem tt_133 : tt 133 = some { kind := TyKind.st [(3, 0), (3, 1), (3, 2), (22, 3)], size := 4, bytes := 48, zero := [Value.int IntKind.i64 0, Value.int IntKind.i64 0, Value.int IntKind.i64 0, Value.slice none 0 0] } := rfl
theorem tt_135 : tt 135 = some { kind := TyKind.sl 5, size := 1, bytes := 24, zero := [Value.slice none 0 0] } := rfl
theorem tt_136 : tt 136 = some { kind := TyKind.other, size := 1, bytes := 8, zero := [Value.nilFunc] } := rfl
theorem tt_140 : tt 140 = some { kind := TyKind.map 3 141, size := 1, bytes := 8, zero := [Value.map none] } := rfl
theorem tt_141 : tt 141 = some { kind := TyKind.st [], size := 0, bytes := 0, zero := [] } := rfl
theorem tt_143 : tt 143 = some { kind := TyKind.map 3 56, size := 1, bytes := 8, zero := [Value.map none] } := rfl
theorem tt_158 : tt 158 = some { kind := TyKind.int IntKind.i64, size := 1, bytes := 8, zero := [Value.int IntKind.i64 0] } := rfl
theorem tt_162 : tt 162 = some { kind := TyKind.other, size := 1, bytes := 8, zero := [Value.nilFunc] } := rfl
theorem tt_164 : tt 164 = some { kind := TyKind.int IntKind.u64, size := 1, bytes := 8, zero := [Value.int IntKind.u64 0] } := rfl
theorem tt_172 : tt 172 = some { kind := TyKind.int IntKind.u64, size := 1, bytes := 8, zero := [Value.int IntKind.u64 0] } := rfl
theorem tt_175 : tt 175 = some { kind := TyKind.int IntKind.u32, size := 1, bytes := 4, zero := [Value.int IntKind.u32 0] } := rfl
theorem tt_190 : tt 190 = some { kind := TyKind.ptr 3, size := 1, bytes := 8, zero := [Value.pointer none] } := rfl
theorem tt_197 : tt 197 = some { kind := TyKind.st [(17, 0), (17, 1), (17, 2), (9, 3)], size := 4, bytes := 40, zero := [Value.pointer none, Value.pointer none, Value.pointer none, Value.string ByteArray.empty] } := rfl
theorem tt_200 : tt 200 = some { kind := TyKind.st [(199, 0)], size := 0, bytes := 0, zero := [] } := rfl
theorem tt_205 : tt 205 = some { kind := TyKind.ptr 5, size := 1, bytes := 8, zero := [Value.pointer none] } := rfl
theorem tt_208 : tt 208 = some { kind := TyKind.st [(12, 0), (12, 1), (175, 2), (202, 3), (5, 4), (5, 5), (203, 6), (204, 7), (205, 8), (206, 9), (207, 10)], size := 11, bytes := 48, zero := [Value.int IntKind.u64 0, Value.int IntKind.u64 0, Value.int IntKind.u32 0, Value.int IntKind.u8 0, Value.int IntKind.u8 0, Value.int IntKind.u8 0, Value.int IntKind.u8 0, Value.nilFunc, Value.pointer none, Value.int IntKind.i32 0, Value.int IntKind.i32 0] } := rfl
end Go.Proofs.YtcjnikkmjhagmaaGreatDoor
namespace Go.Proofs.YtcjnikkmjhagmaaGreatDoor
structure Op5 where
  p : Int
  k : Int
  s : Int
  e : Int
  r : Int
def oAhead (a b : Op5) : Bool := decide (0 ≤ a.e ∧ a.e < b.s)
def oMay (x : Op5) : Int :=
  if ¬ (1 ≤ x.p ∧ x.p ≤ 1000) ∨ ¬ (0 ≤ x.s ∧ x.s ≤ 9999) then 2 else if ¬ (0 ≤ x.k ∧ x.k ≤ 63) then 31 else if x.e = -1 ∧ x.r = -1 then 0 else if ¬ (x.s + 1 ≤ x.e ∧ x.e ≤ 9999) ∨ ¬ (0 ≤ x.r ∧ x.r ≤ 1000000) then 7 else 0
theorem oMay_zero {x : Op5} (h : oMay x = 0) : (1 ≤ x.p ∧ x.p ≤ 1000) ∧ (0 ≤ x.s ∧ x.s ≤ 9999) ∧ (0 ≤ x.k ∧ x.k ≤ 63) ∧ ((x.e = -1 ∧ x.r = -1) ∨ (x.s + 1 ≤ x.e ∧ x.e ≤ 9999 ∧ 0 ≤ x.r ∧ x.r ≤ 1000000)) := by
  unfold oMay at h
  split at h
  · omega
  · split at h
    · omega
    · split at h
      · omega
      · split at h <;> omega
def oMeets (a b : Op5) : Prop := a.s = b.s ∨ a.e = b.s ∨ a.s = b.e ∨ (a.e = b.e ∧ a.e ≠ -1)
instance (a b : Op5) : Decidable (oMeets a b) := by unfold oMeets; infer_instance
def oAt (xs : List Op5) (i : Nat) : Op5 := xs.getD i ⟨0, 0, 0, 0, 0⟩
def oOrd (xs : List Op5) (i : Nat) (o : Op5) : Prop := ∃ k, k < i ∧ ((oAt xs k).s ≥ o.s ∨ oMeets (oAt xs k) o)
def oOpen (xs : List Op5) (i : Nat) (o : Op5) : Prop := ∃ k, k < i ∧ (oAt xs k).p = o.p ∧ oAhead (oAt xs k) o = false
instance (xs : List Op5) (i : Nat) (o : Op5) : Decidable (oOrd xs i o) := by unfold oOrd; infer_instance
instance (xs : List Op5) (i : Nat) (o : Op5) : Decidable (oOpen xs i o) := by unfold oOpen; infer_instance
def oErr (xs : List Op5) (i : Nat) : Int := if oMay (oAt xs i) ≠ 0 then oMay (oAt xs i) else if oOrd xs i (oAt xs i) then 32 else if oOpen xs i (oAt xs i) then 33 else 0
def oGood (xs : List Op5) (k : Nat) : Prop := ∀ i, i < k → oErr xs i = 0
instance (xs : List Op5) (k : Nat) : Decidable (oGood xs k) := by unfold oGood; infer_instance
theorem oGood.succ {xs : List Op5} {k : Nat} (h : oGood xs k) (he : oErr xs k = 0) : oGood xs (k + 1) := fun i hi => by
  rcases Nat.lt_or_ge i k with h1 | h1
  · exact h i h1
  · obtain rfl : i = k := by omega
    exact he
theorem oErr_zero {xs : List Op5} {i : Nat} (h : oErr xs i = 0) : oMay (oAt xs i) = 0 ∧ ¬ oOrd xs i (oAt xs i) ∧ ¬ oOpen xs i (oAt xs i) := by
  unfold oErr at h
  split at h
  · exact absurd h ‹_›
  · rename_i h1
    split at h
    · omega
    · split at h
      · omega
      · exact ⟨by simpa using h1, ‹_›, ‹_›⟩
theorem oGood.rise {xs : List Op5} {k : Nat} (h : oGood xs k) {i j : Nat} (hij : i < j) (hj : j < k) : (oAt xs i).s < (oAt xs j).s := by
  have := (oErr_zero (h j hj)).2.1
  rcases Int.lt_or_le (oAt xs i).s (oAt xs j).s with h1 | h1
  · exact h1
  · exact absurd ⟨i, hij, Or.inl h1⟩ this
theorem oGood.apart {xs : List Op5} {k : Nat} (h : oGood xs k) {i j : Nat} (hij : i < j) (hj : j < k) (hp : (oAt xs i).p = (oAt xs j).p) : oAhead (oAt xs i) (oAt xs j) = true := by
  have := (oErr_zero (h j hj)).2.2
  cases h1 : oAhead (oAt xs i) (oAt xs j)
  · exact absurd ⟨i, hij, hp, h1⟩ this
  · rfl
def oTaken (xs : List Op5) (k : Nat) (n : Int) : Prop := ∃ i, i < k ∧ ((oAt xs i).s = n ∨ ((oAt xs i).e = n ∧ (oAt xs i).e ≠ -1))
instance (xs : List Op5) (k : Nat) (n : Int) : Decidable (oTaken xs k n) := by unfold oTaken; infer_instance
def oLast (xs : List Op5) : Nat → Int → Option Op5
  | 0, _ => none
  | k + 1, p => if (oAt xs k).p = p then some (oAt xs k) else oLast xs k p
theorem oLast_some {xs : List Op5} {k : Nat} {p : Int} {o : Op5} (h : oLast xs k p = some o) : ∃ i, i < k ∧ oAt xs i = o ∧ (oAt xs i).p = p ∧ ∀ j, i < j → j < k → (oAt xs j).p ≠ p := by
  induction k with
  | zero => simp [oLast] at h
  | succ k ih =>
    unfold oLast at h
    split at h
    · rename_i hp
      cases h
      exact ⟨k, by omega, rfl, hp, fun j h1 h2 => by omega⟩
    · rename_i hp
      obtain ⟨i, h1, h2, h3, h4⟩ := ih h
      refine ⟨i, by omega, h2, h3, fun j h5 h6 => ?_⟩
      rcases Nat.lt_or_ge j k with h7 | h7
      · exact h4 j h5 h7
      · obtain rfl : j = k := by omega
        exact hp
theorem oLast_none {xs : List Op5} {k : Nat} {p : Int} (h : oLast xs k p = none) : ∀ i, i < k → (oAt xs i).p ≠ p := by
  induction k with
  | zero => intro i hi; omega
  | succ k ih =>
    unfold oLast at h
    split at h
    · cases h
    · rename_i hp
      intro i hi
      rcases Nat.lt_or_ge i k with h1 | h1
      · exact ih h i h1
      · obtain rfl : i = k := by omega
        exact hp
theorem oOrd_iff {xs : List Op5} {k : Nat} (h : oGood xs k) (hm : oMay (oAt xs k) = 0) : oOrd xs k (oAt xs k) ↔ (oTaken xs k (oAt xs k).s ∨ oTaken xs k (oAt xs k).e ∨ (0 < k ∧ (oAt xs k).s ≤ (oAt xs (k - 1)).s)) := by
  have hm := oMay_zero hm
  constructor
  · rintro ⟨i, hi, h1 | h1 | h1 | h1 | h1⟩
    · right; right
      refine ⟨by omega, ?_⟩
      rcases Nat.lt_or_ge i (k - 1) with h2 | h2
      · have := h.rise h2 (by omega : k - 1 < k); omega
      · obtain rfl : i = k - 1 := by omega
        omega
    · left; exact ⟨i, hi, Or.inl h1⟩
    · left; exact ⟨i, hi, Or.inr ⟨h1, by omega⟩⟩
    · right; left; exact ⟨i, hi, Or.inl h1⟩
    · right; left; exact ⟨i, hi, Or.inr h1⟩
  · rintro (⟨i, hi, h1 | h1⟩ | ⟨i, hi, h1 | h1⟩ | ⟨h0, h1⟩)
    · exact ⟨i, hi, Or.inr (Or.inl h1)⟩
    · exact ⟨i, hi, Or.inr (Or.inr (Or.inl h1.1))⟩
    · exact ⟨i, hi, Or.inr (Or.inr (Or.inr (Or.inl h1)))⟩
    · exact ⟨i, hi, Or.inr (Or.inr (Or.inr (Or.inr h1)))⟩
    · exact ⟨k - 1, by omega, Or.inl h1⟩
theorem oOpen_iff {xs : List Op5} {k : Nat} (h : oGood xs k) (ho : ¬ oOrd xs k (oAt xs k)) : oOpen xs k (oAt xs k) ↔ ∃ o, oLast xs k (oAt xs k).p = some o ∧ oAhead o (oAt xs k) = false := by
  constructor
  · rintro ⟨i, hi, hp, ha⟩
    cases hl : oLast xs k (oAt xs k).p with
    | none => exact absurd hp (oLast_none hl i hi)
    | some o =>
      obtain ⟨j, hj, e, hpj, hlast⟩ := oLast_some hl
      refine ⟨o, rfl, ?_⟩
      rcases Nat.lt_trichotomy i j with h1 | h1 | h1
      · have h2 := h.apart h1 hj (by rw [hp, hpj])
        have h3 := (oErr_zero (h j hj)).1
        have h5 : (oAt xs j).s < (oAt xs k).s := by
          rcases Int.lt_or_le (oAt xs j).s (oAt xs k).s with h1 | h1
          · exact h1
          · exact absurd ⟨j, hj, Or.inl h1⟩ ho
        unfold oAhead at h2 ha
        have h2 := of_decide_eq_true h2
        have ha := of_decide_eq_false ha
        omega
      · subst h1; rw [← e]; exact ha
      · exact absurd hp (hlast i h1 hi)
  · rintro ⟨o, hl, ha⟩
    obtain ⟨j, hj, e, hpj, _⟩ := oLast_some hl
    exact ⟨j, hj, hpj, by rw [e]; exact ha⟩
theorem oTaken_succ (xs : List Op5) (k : Nat) (n : Int) : oTaken xs (k + 1) n ↔ oTaken xs k n ∨ (oAt xs k).s = n ∨ ((oAt xs k).e = n ∧ (oAt xs k).e ≠ -1) := by
  constructor
  · rintro ⟨i, hi, h⟩
    rcases Nat.lt_or_ge i k with h1 | h1
    · exact Or.inl ⟨i, h1, h⟩
    · obtain rfl : i = k := by omega
      exact Or.inr h
  · rintro (⟨i, hi, h⟩ | h)
    · exact ⟨i, by omega, h⟩
    · exact ⟨k, by omega, h⟩
def OChk (xs : List Op5) (at' c : Int) : Prop :=
  (5000 < xs.length ∧ at' = 0 ∧ c = 3) ∨ (xs.length ≤ 5000 ∧ ∃ i : Nat, i < xs.length ∧ oGood xs i ∧ oErr xs i ≠ 0 ∧ at' = i ∧ c = oErr xs i) ∨ (xs.length ≤ 5000 ∧ oGood xs xs.length ∧ at' = xs.length ∧ c = 0)
theorem OChk.uniq {xs : List Op5} {a c a' c' : Int} (h : OChk xs a c) (h' : OChk xs a' c') : a = a' ∧ c = c' := by
  rcases h with ⟨h1, h2, h3⟩ | ⟨h1, i, h2, h3, h4, h5, h6⟩ | ⟨h1, h2, h3, h4⟩ <;> rcases h' with ⟨k1, k2, k3⟩ | ⟨k1, j, k2, k3, k4, k5, k6⟩ | ⟨k1, k2, k3, k4⟩
  · omega
  · omega
  · omega
  · omega
  · rcases Nat.lt_trichotomy i j with h | h | h
    · exact absurd (k3 i h) h4
    · subst h; omega
    · exact absurd (h3 j h) k4
  · exact absurd (k2 i h2) h4
  · omega
  · exact absurd (h2 j k2) k4
  · omega
def oPairs (xs : List Op5) : List (Int × Int) := (List.range xs.length).flatMap fun i => ((List.range xs.length).filter fun j => oAhead (oAt xs i) (oAt xs j)).map fun j : Nat => ((i : Int), (j : Int))
def oPend (xs : List Op5) : List Int := ((List.range xs.length).filter fun i => decide ((oAt xs i).e = -1)).map fun i : Nat => (i : Int)
end Go.Proofs.YtcjnikkmjhagmaaGreatDoor
