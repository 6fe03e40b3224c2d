import Derived.Test.YtpfbcjlgbdbcpaaMgAL
import Derived.Test.YtpfbcjlgbdbcpaaProg
import Derived.Test.YtpfbcjlgbdbcpaaMgAF
namespace Go.Proofs.Ytpfbcjlgbdbcpaa
open Go.RowKit
set_option linter.unusedVariables false
set_option linter.unusedSimpArgs false
section
variable {P : Program} {m : Nat} {G0 : Gh} {H : AHeap}
def ADM0 (P : Program) (m : Nat) (G0 : Gh) (ops : Array Oper) (H : AHeap) (K : List AV → MS → Prop) : List Oper → List Kd → List AV → MS → Prop
  | [], _, fr, M => K fr M
  | o :: l, al, fr, M => ∃ x M', Op3 P m G0 ops H o fr M M' x (al.headD .free).al ∧ ADM0 P m G0 ops H K l al.tail (putL fr o.dst x) M'
theorem op3_strip {ops : List Oper} {n : Nat} (hn : topD (dsts ops) ≤ n) {o : Oper} {fr : List AV} {M M' : MS} {x : AV} {b : Bool} (h : Op3 P m G0 (idB n) H (strip (dsts ops) o) fr M M' x b) : Op3 P m G0 ops.toArray H o fr M M' x b := by
  cases h with
  | skip e h2 => exact .skip e (by rw [← awanted_strip hn]; exact h2)
  | does x e h1 h2 => exact .does _ e (by rw [← awanted_strip hn]; exact h1) (does_strip hn h2)
  | turn x h1 h2 =>
    refine .turn _ (by rw [← awanted_strip hn]; exact h1) fun Q G a w K hl hM hi hk => ?_
    rw [← wp_strip (dsts ops)]
    exact h2 Q G a w K hl hM hi ⟨hk.1, fun t ht => hk.2 t (by rw [← looks_strip hn]; exact ht)⟩
theorem ADM0_strip {ops : List Oper} {n : Nat} (hn : topD (dsts ops) ≤ n) {K : List AV → MS → Prop} : ∀ {l : List Oper} {al : List Kd} {fr : List AV} {M : MS}, ADM0 P m G0 (idB n) H K (l.map (strip (dsts ops))) al fr M → ADM0 P m G0 ops.toArray H K l al fr M
  | [], al, fr, M, h => h
  | o :: l, al, fr, M, h => by
    obtain ⟨x, M', h1, h2⟩ := h
    exact ⟨x, M', op3_strip hn h1, ADM0_strip hn h2⟩
theorem ADM0.fns {ops : Array Oper} {K : List AV → MS → Prop} : ∀ {l : List Oper} {al : List Kd} {fr : List AV} {M : MS}, ADM0 P m G0 ops H K l al fr M →
    ∃ (X : Nat → AV) (F : Nat → List AV) (Mk : Nat → MS), F 0 = fr ∧ Mk 0 = M ∧ K (F l.length) (Mk l.length) ∧ ∀ j o, l[j]? = some o → Op3 P m G0 ops H o (F j) (Mk j) (Mk (j + 1)) (X j) (al.getD j .free).al ∧ F (j + 1) = putL (F j) o.dst (X j)
  | [], al, fr, M, h => ⟨fun _ => uD, fun _ => fr, fun _ => M, rfl, rfl, h, fun j o e => by simp at e⟩
  | o :: l, al, fr, M, h => by
    obtain ⟨x, M', h1, h2⟩ := h
    obtain ⟨X, F, Mk, e1, e2, e3, e4⟩ := ADM0.fns h2
    refine ⟨consF x X, consF fr F, consF M Mk, rfl, rfl, e3, fun j o' e => ?_⟩
    cases j with
    | zero =>
      simp only [List.getElem?_cons_zero, Option.some.injEq] at e; subst e
      refine ⟨?_, e1⟩
      show Op3 P m G0 ops H o fr M (Mk 0) x (al.getD 0 .free).al
      rw [e2]
      cases al <;> exact h1
    | succ j =>
      simp only [List.getElem?_cons_succ] at e
      have := e4 j o' e
      cases al <;> exact this
def ADX (P : Program) (m : Nat) (H : AHeap) (K : List AV → MS → Prop) (p : List Oper × List Kd × List AV × MS) : Prop := ∀ n, p.2.2.1.length ≤ n → ∀ G0, ADM0 P m G0 (idB n) H K p.1 p.2.1 p.2.2.1 p.2.2.2
def mapOp : Op → Bool
  | .mapUpdate _ _ _ _ | .lookup _ _ _ _ => true
  | .call c => match c.callee with
    | .builtin .delete => true
    | _ => false
  | _ => false
def alM (l : List Oper) : List Kd := l.map fun o => if mapOp o.op = true then .grow else .free
variable {tt : TT} {fr : List AV} {o : Oper} {l : List Oper} {al : List Kd} {K : List AV → MS → Prop} {M : MS}
theorem ADX_nil (h : K fr M) : ADX P m H K ([], al, fr, M) := fun n hn G0 => h
theorem ADX_id {p : List Oper × List Kd × List AV × MS} (h : ADX P m H K p) : ADX P m H K p := h
theorem ADX_op (hT : TyOK P tt) (hr : roOp o.op = true) (hw : wantedS fr o = some true) (h : match aop tt ⟨fr, H⟩ o with | some (x, _) => ADX P m H K (l, al, putL fr o.dst x, M) | none => False) : ADX P m H K (o :: l, .free :: al, fr, M) := fun n hn G0 => by
  cases hx : aop tt ⟨fr, H⟩ o with
  | none => rw [hx] at h; exact h.elim
  | some p =>
    obtain ⟨x, H'⟩ := p
    rw [hx] at h
    have := aop_ro hr hx
    subst this
    exact ⟨x, M, .does x rfl (wanted_iff hn hw) (does_aop hT hx), h n (by show (putL _ _ _).length ≤ n; rw [putL_len]; exact hn) G0⟩
theorem ADX_skip (hw : wantedS fr o = some false) (h : ADX P m H K (l, al, putL fr o.dst uD, M)) : ADX P m H K (o :: l, .free :: al, fr, M) := fun n hn G0 =>
  ⟨uD, M, .skip rfl (wanted_iff hn hw), h n (by show (putL _ _ _).length ≤ n; rw [putL_len]; exact hn) G0⟩
theorem AX_drawM {Q : Exit → XS → Prop} (hmx : P.follows .mixedOrders = true) {id : Nat} {ops : List Oper} (hord : ordOK ops.toArray ops.length (alM ops) = true)
    (h : ∀ (K : List AV → MS → Prop), (∀ F M', Q .normal ⟨F, H, M'⟩ → K F M') → ADX P m H K (ops.map (strip (dsts ops)), alM ops, fr, M)) : AX P m (.region id ops.toArray true) Q ⟨fr, H, M⟩ := fun G0 G a w hm hl0 hM hr => by
  have hsz : ops.toArray.size = ops.length := by simp
  have ord : Ord ops.toArray ops.toArray.size (alM ops) := by rw [hsz]; exact ord_of hord
  obtain ⟨X, F, Mk, e1, e2, e3, e4⟩ := (ADM0_strip (n := max fr.length (topD (dsts ops))) (Nat.le_max_right _ _) (h (fun F M' => Q .normal ⟨F, H, M'⟩) (fun _ _ h => h) (max fr.length (topD (dsts ops))) (Nat.le_max_left _ _) G0)).fns
  refine wp_region_any hmx ?_
  refine any3 (m := m) (G0 := G0) (H := H) (X := X) (F := F) (Mk := Mk) ord ⟨fun k o ho => e4 k o (by simpa using ho)⟩ hm (R := PostX m G0 Q) (fun G' a' w' k1 k2 k3 => ⟨G', ⟨F ops.toArray.size, H, Mk ops.toArray.size⟩, k1, k2, hm, k3, by rw [hsz]; exact e3⟩) ops.toArray.size (Array.replicate ops.toArray.size false) a { w with drawn := w.drawn + 1 } G 0 ?_ ?_ hr.defers ?_ (Nat.zero_le _) ?_ hr.inv.drew hl0 (by rw [e2]; exact hM)
  · simp [left]
  · refine ⟨by simp, fun j hj => ?_⟩
    simp [Array.getD] at hj
  · refine ⟨by rw [e1]; have := hr.fr.1; simp at this; exact this.symm, fun t j ht hj hl => ?_, fun t ht _ => ?_⟩
    · simp [Array.getD] at hl
    · rw [e1, arr_getD]; exact hr.fr.getD t
  · intro j hj ha
    simp [Array.getD]
theorem AX_drawM1 {Q : Exit → XS → Prop} (hmx : P.follows .mixedOrders = true) {id : Nat} {ops : List Oper} (hany : (ops.any fun o => mapOp o.op) = true) (hord : ordOK ops.toArray ops.length (alM ops) = true)
    (h : ∀ (K : List AV → MS → Prop), (∀ F M', Q .normal ⟨F, H, M'⟩ → K F M') → ADX P m H K (ops.map (strip (dsts ops)), alM ops, fr, M)) : AX P m (.region id ops.toArray true) Q ⟨fr, H, M⟩ := AX_drawM hmx hord h
end
section
variable {m : Nat} {H : AHeap} {fr : List AV} {l : List Oper} {al : List Kd} {K : List AV → MS → Prop} {M : MS} {t e : TypeId} {d : Option Tmp} {ty : TypeId} {pos : String} {after : Array Edge} {g : Option (Nat × Bool)}
end
end Go.Proofs.Ytpfbcjlgbdbcpaa
namespace Go.Proofs.Ytpfbcjlgbdbcpaa
open Go.RowKit
def tyTab : List (Option TyRow) := [
  none,
  none,
  some { kind := TyKind.int IntKind.i64, size := 1, bytes := 8, zero := [Value.int IntKind.i64 0] },
  some { kind := TyKind.int IntKind.i64, size := 1, bytes := 8, zero := [Value.int IntKind.i64 0] },
  some { kind := TyKind.bool, size := 1, bytes := 1, zero := [Value.bool false] },
  some { kind := TyKind.int IntKind.u8, size := 1, bytes := 1, zero := [Value.int IntKind.u8 0] },
  none,
  some { kind := TyKind.st [(2, 0), (3, 1), (4, 2), (6, 3)], size := 4, bytes := 24, zero := [Value.int IntKind.i64 0, Value.int IntKind.i64 0, Value.bool false, Value.int IntKind.u8 0] },
  none,
  some { kind := TyKind.str, size := 1, bytes := 16, zero := [Value.string ByteArray.empty] },
  none,
  none,
  some { kind := TyKind.int IntKind.u64, size := 1, bytes := 8, zero := [Value.int IntKind.u64 0] },
  some { kind := TyKind.st [(9, 0), (12, 1)], size := 2, bytes := 24, zero := [Value.string ByteArray.empty, Value.int IntKind.u64 0] },
  none,
  none,
  none,
  none,
  some { kind := TyKind.st [(17, 0)], size := 1, bytes := 8, zero := [Value.pointer none] },
  none,
  some { kind := TyKind.other, size := 1, bytes := 16, zero := [Value.nilIface] },
  some { kind := TyKind.int IntKind.i32, size := 1, bytes := 4, zero := [Value.int IntKind.i32 0] },
  some { kind := TyKind.sl 43, size := 1, bytes := 24, zero := [Value.slice none 0 0] },
  some { kind := TyKind.st [(3, 0), (3, 1), (3, 2), (22, 3)], size := 4, bytes := 48, zero := [Value.int IntKind.i64 0, Value.int IntKind.i64 0, Value.int IntKind.i64 0, Value.slice none 0 0] },
  some { kind := TyKind.st [(3, 0), (3, 1), (3, 2), (22, 3)], size := 4, bytes := 48, zero := [Value.int IntKind.i64 0, Value.int IntKind.i64 0, Value.int IntKind.i64 0, Value.slice none 0 0] },
  some { kind := TyKind.arr 2 3, size := 2, bytes := 16, zero := [Value.int IntKind.i64 0, Value.int IntKind.i64 0] },
  none,
  none,
  some { kind := TyKind.int IntKind.i64, size := 1, bytes := 8, zero := [Value.int IntKind.i64 0] },
  none,
  none,
  none,
  none,
  none,
  none,
  none,
  some { kind := TyKind.sl 3, size := 1, bytes := 24, zero := [Value.slice none 0 0] },
  none,
  none,
  none,
  none,
  none,
  some { kind := TyKind.st [(3, 0), (3, 1), (3, 2), (3, 3)], size := 4, bytes := 32, zero := [Value.int IntKind.i64 0, Value.int IntKind.i64 0, Value.int IntKind.i64 0, Value.int IntKind.i64 0] },
  some { kind := TyKind.st [(3, 0), (3, 1), (3, 2), (3, 3)], size := 4, bytes := 32, zero := [Value.int IntKind.i64 0, Value.int IntKind.i64 0, Value.int IntKind.i64 0, Value.int IntKind.i64 0] },
  none,
  none,
  none,
  none,
  none,
  none,
  some { kind := TyKind.other, size := 1, bytes := 8, zero := [Value.nilFunc] },
  some { kind := TyKind.sl 4, size := 1, bytes := 24, zero := [Value.slice none 0 0] },
  none,
  some { kind := TyKind.arr 32 4, size := 32, bytes := 32, zero := [Value.bool false, Value.bool false, Value.bool false, Value.bool false, Value.bool false, Value.bool false, Value.bool false, Value.bool false, Value.bool false, Value.bool false, Value.bool false, Value.bool false, Value.bool false, Value.bool false, Value.bool false, Value.bool false, Value.bool false, Value.bool false, Value.bool false, Value.bool false, Value.bool false, Value.bool false, Value.bool false, Value.bool false, Value.bool false, Value.bool false, Value.bool false, Value.bool false, Value.bool false, Value.bool false, Value.bool false, Value.bool false] },
  none,
  none,
  none,
  none,
  none,
  none,
  none,
  none,
  some { kind := TyKind.int IntKind.u64, size := 1, bytes := 8, zero := [Value.int IntKind.u64 0] },
  some { kind := TyKind.other, size := 1, bytes := 8, zero := [Value.nilFunc] },
  none,
  none,
  none,
  none,
  none,
  none,
  none,
  none,
  none,
  some { kind := TyKind.int IntKind.u32, size := 1, bytes := 4, zero := [Value.int IntKind.u32 0] },
  none,
  some { kind := TyKind.int IntKind.u64, size := 1, bytes := 8, zero := [Value.int IntKind.u64 0] },
  none,
  none,
  none,
  none,
  some { kind := TyKind.ptr 3, size := 1, bytes := 8, zero := [Value.pointer none] },
  none,
  none,
  none,
  none,
  some { kind := TyKind.st [(17, 0), (17, 1), (17, 2), (9, 3)], size := 4, bytes := 40, zero := [Value.pointer none, Value.pointer none, Value.pointer none, Value.string ByteArray.empty] },
  none,
  none,
  some { kind := TyKind.st [(87, 0)], size := 0, bytes := 0, zero := [] },
  none,
  none,
  none,
  none,
  none,
  some { kind := TyKind.ptr 5, size := 1, bytes := 8, zero := [Value.pointer none] },
  none,
  none,
  some { kind := TyKind.st [(12, 0), (12, 1), (73, 2), (91, 3), (5, 4), (5, 5), (92, 6), (93, 7), (94, 8), (95, 9), (96, 10)], size := 11, bytes := 48, zero := [Value.int IntKind.u64 0, Value.int IntKind.u64 0, Value.int IntKind.u32 0, Value.int IntKind.u8 0, Value.int IntKind.u8 0, Value.int IntKind.u8 0, Value.int IntKind.u8 0, Value.nilFunc, Value.pointer none, Value.int IntKind.i32 0, Value.int IntKind.i32 0] },
  none,
  none]
def tt : TT := fun t => (tyTab[t]?).getD none
theorem tyTab_ok : ((List.range 100).map fun t => if ((tyTab[t]?).getD none).isSome then tyRow Try.prog t else none) = tyTab := by kernel_rfl
theorem tyOK : TyOK Try.prog tt := fun t r h => by
  have h' : (tyTab[t]?).getD none = some r := h
  have hlt : t < 100 := by
    rcases Nat.lt_or_ge t 100 with h1 | h1
    · exact h1
    · rw [List.getElem?_eq_none (by show _ ≤ t; exact h1)] at h'; cases h'
  have e := congrArg (fun l => l[t]?) tyTab_ok
  simp only [List.getElem?_map, List.getElem?_range hlt, Option.map_some] at e
  rw [h'] at e
  rw [← e] at h'
  simpa using h'
theorem tt_2 : tt 2 = some { kind := TyKind.int IntKind.i64, size := 1, bytes := 8, zero := [Value.int IntKind.i64 0] } := rfl
theorem tt_3 : tt 3 = some { kind := TyKind.int IntKind.i64, size := 1, bytes := 8, zero := [Value.int IntKind.i64 0] } := rfl
theorem tt_4 : tt 4 = some { kind := TyKind.bool, size := 1, bytes := 1, zero := [Value.bool false] } := rfl
theorem tt_5 : tt 5 = some { kind := TyKind.int IntKind.u8, size := 1, bytes := 1, zero := [Value.int IntKind.u8 0] } := rfl
theorem tt_7 : tt 7 = some { kind := TyKind.st [(2, 0), (3, 1), (4, 2), (6, 3)], size := 4, bytes := 24, zero := [Value.int IntKind.i64 0, Value.int IntKind.i64 0, Value.bool false, Value.int IntKind.u8 0] } := rfl
theorem tt_9 : tt 9 = some { kind := TyKind.str, size := 1, bytes := 16, zero := [Value.string ByteArray.empty] } := rfl
theorem tt_12 : tt 12 = some { kind := TyKind.int IntKind.u64, size := 1, bytes := 8, zero := [Value.int IntKind.u64 0] } := rfl
theorem tt_13 : tt 13 = some { kind := TyKind.st [(9, 0), (12, 1)], size := 2, bytes := 24, zero := [Value.string ByteArray.empty, Value.int IntKind.u64 0] } := rfl
theorem tt_18 : tt 18 = some { kind := TyKind.st [(17, 0)], size := 1, bytes := 8, zero := [Value.pointer none] } := rfl
theorem tt_20 : tt 20 = some { kind := TyKind.other, size := 1, bytes := 16, zero := [Value.nilIface] } := rfl
theorem tt_21 : tt 21 = some { kind := TyKind.int IntKind.i32, size := 1, bytes := 4, zero := [Value.int IntKind.i32 0] } := rfl
theorem tt_22 : tt 22 = some { kind := TyKind.sl 43, size := 1, bytes := 24, zero := [Value.slice none 0 0] } := rfl
theorem tt_23 : tt 23 = some { kind := TyKind.st [(3, 0), (3, 1), (3, 2), (22, 3)], size := 4, bytes := 48, zero := [Value.int IntKind.i64 0, Value.int IntKind.i64 0, Value.int IntKind.i64 0, Value.slice none 0 0] } := rfl
theorem tt_24 : tt 24 = some { kind := TyKind.st [(3, 0), (3, 1), (3, 2), (22, 3)], size := 4, bytes := 48, zero := [Value.int IntKind.i64 0, Value.int IntKind.i64 0, Value.int IntKind.i64 0, Value.slice none 0 0] } := rfl
theorem tt_25 : tt 25 = some { kind := TyKind.arr 2 3, size := 2, bytes := 16, zero := [Value.int IntKind.i64 0, Value.int IntKind.i64 0] } := rfl
theorem tt_28 : tt 28 = some { kind := TyKind.int IntKind.i64, size := 1, bytes := 8, zero := [Value.int IntKind.i64 0] } := rfl
theorem tt_36 : tt 36 = some { kind := TyKind.sl 3, size := 1, bytes := 24, zero := [Value.slice none 0 0] } := rfl
theorem tt_42 : tt 42 = some { kind := TyKind.st [(3, 0), (3, 1), (3, 2), (3, 3)], size := 4, bytes := 32, zero := [Value.int IntKind.i64 0, Value.int IntKind.i64 0, Value.int IntKind.i64 0, Value.int IntKind.i64 0] } := rfl
theorem tt_43 : tt 43 = some { kind := TyKind.st [(3, 0), (3, 1), (3, 2), (3, 3)], size := 4, bytes := 32, zero := [Value.int IntKind.i64 0, Value.int IntKind.i64 0, Value.int IntKind.i64 0, Value.int IntKind.i64 0] } := rfl
theorem tt_50 : tt 50 = some { kind := TyKind.other, size := 1, bytes := 8, zero := [Value.nilFunc] } := rfl
theorem tt_51 : tt 51 = some { kind := TyKind.sl 4, size := 1, bytes := 24, zero := [Value.slice none 0 0] } := rfl
theorem tt_53 : tt 53 = some { kind := TyKind.arr 32 4, size := 32, bytes := 32, zero := [Value.bool false, Value.bool false, Value.bool false, Value.bool false, Value.bool false, Value.bool false, Value.bool false, Value.bool false, Value.bool false, Value.bool false, Value.bool false, Value.bool false, Value.bool false, Value.bool false, Value.bool false, Value.bool false, Value.bool false, Value.bool false, Value.bool false, Value.bool false, Value.bool false, Value.bool false, Value.bool false, Value.bool false, Value.bool false, Value.bool false, Value.bool false, Value.bool false, Value.bool false, Value.bool false, Value.bool false, Value.bool false] } := rfl
theorem tt_62 : tt 62 = some { kind := TyKind.int IntKind.u64, size := 1, bytes := 8, zero := [Value.int IntKind.u64 0] } := rfl
theorem tt_63 : tt 63 = some { kind := TyKind.other, size := 1, bytes := 8, zero := [Value.nilFunc] } := rfl
theorem tt_73 : tt 73 = some { kind := TyKind.int IntKind.u32, size := 1, bytes := 4, zero := [Value.int IntKind.u32 0] } := rfl
theorem tt_75 : tt 75 = some { kind := TyKind.int IntKind.u64, size := 1, bytes := 8, zero := [Value.int IntKind.u64 0] } := rfl
theorem tt_80 : tt 80 = some { kind := TyKind.ptr 3, size := 1, bytes := 8, zero := [Value.pointer none] } := rfl
theorem tt_85 : tt 85 = some { kind := TyKind.st [(17, 0), (17, 1), (17, 2), (9, 3)], size := 4, bytes := 40, zero := [Value.pointer none, Value.pointer none, Value.pointer none, Value.string ByteArray.empty] } := rfl
theorem tt_88 : tt 88 = some { kind := TyKind.st [(87, 0)], size := 0, bytes := 0, zero := [] } := rfl
theorem tt_94 : tt 94 = some { kind := TyKind.ptr 5, size := 1, bytes := 8, zero := [Value.pointer none] } := rfl
theorem tt_97 : tt 97 = some { kind := TyKind.st [(12, 0), (12, 1), (73, 2), (91, 3), (5, 4), (5, 5), (92, 6), (93, 7), (94, 8), (95, 9), (96, 10)], size := 11, bytes := 48, zero := [Value.int IntKind.u64 0, Value.int IntKind.u64 0, Value.int IntKind.u32 0, Value.int IntKind.u8 0, Value.int IntKind.u8 0, Value.int IntKind.u8 0, Value.int IntKind.u8 0, Value.nilFunc, Value.pointer none, Value.int IntKind.i32 0, Value.int IntKind.i32 0] } := rfl
end Go.Proofs.Ytpfbcjlgbdbcpaa
namespace Go.Proofs.Ytpfbcjlgbdbcpaa
structure Op5 where
  p : Int
  k : Int
  s : Int
  e : Int
  r : Int
def oAhead (a b : Op5) : Bool := decide (0 ≤ a.e ∧ a.e < b.s)
def oMay (x : Op5) : Int :=
  if ¬ (1 ≤ x.p ∧ x.p ≤ 1000) ∨ ¬ (0 ≤ x.s ∧ x.s ≤ 9999) then 2 else if ¬ (0 ≤ x.k ∧ x.k ≤ 63) then 31 else if x.e = -1 ∧ x.r = -1 then 0 else if ¬ (x.s + 1 ≤ x.e ∧ x.e ≤ 9999) ∨ ¬ (0 ≤ x.r ∧ x.r ≤ 1000000) then 7 else 0
def oMeets (a b : Op5) : Prop := a.s = b.s ∨ a.e = b.s ∨ a.s = b.e ∨ (a.e = b.e ∧ a.e ≠ -1)
instance (a b : Op5) : Decidable (oMeets a b) := by unfold oMeets; infer_instance
def oAt (xs : List Op5) (i : Nat) : Op5 := xs.getD i ⟨0, 0, 0, 0, 0⟩
def oOrd (xs : List Op5) (i : Nat) (o : Op5) : Prop := ∃ k, k < i ∧ ((oAt xs k).s ≥ o.s ∨ oMeets (oAt xs k) o)
def oOpen (xs : List Op5) (i : Nat) (o : Op5) : Prop := ∃ k, k < i ∧ (oAt xs k).p = o.p ∧ oAhead (oAt xs k) o = false
instance (xs : List Op5) (i : Nat) (o : Op5) : Decidable (oOrd xs i o) := by unfold oOrd; infer_instance
instance (xs : List Op5) (i : Nat) (o : Op5) : Decidable (oOpen xs i o) := by unfold oOpen; infer_instance
def oErr (xs : List Op5) (i : Nat) : Int := if oMay (oAt xs i) ≠ 0 then oMay (oAt xs i) else if oOrd xs i (oAt xs i) then 32 else if oOpen xs i (oAt xs i) then 33 else 0
def oGood (xs : List Op5) (k : Nat) : Prop := ∀ i, i < k → oErr xs i = 0
instance (xs : List Op5) (k : Nat) : Decidable (oGood xs k) := by unfold oGood; infer_instance
theorem oGood.succ {xs : List Op5} {k : Nat} (h : oGood xs k) (he : oErr xs k = 0) : oGood xs (k + 1) := fun i hi => by
  rcases Nat.lt_or_ge i k with h1 | h1
  · exact h i h1
  · obtain rfl : i = k := by omega
    exact he
theorem oErr_zero {xs : List Op5} {i : Nat} (h : oErr xs i = 0) : oMay (oAt xs i) = 0 ∧ ¬ oOrd xs i (oAt xs i) ∧ ¬ oOpen xs i (oAt xs i) := by
  unfold oErr at h
  split at h
  · exact absurd h ‹_›
  · rename_i h1
    split at h
    · omega
    · split at h
      · omega
      · exact ⟨by simpa using h1, ‹_›, ‹_›⟩
theorem oGood.apart {xs : List Op5} {k : Nat} (h : oGood xs k) {i j : Nat} (hij : i < j) (hj : j < k) (hp : (oAt xs i).p = (oAt xs j).p) : oAhead (oAt xs i) (oAt xs j) = true := by
  have := (oErr_zero (h j hj)).2.2
  cases h1 : oAhead (oAt xs i) (oAt xs j)
  · exact absurd ⟨i, hij, hp, h1⟩ this
  · rfl
def oTaken (xs : List Op5) (k : Nat) (n : Int) : Prop := ∃ i, i < k ∧ ((oAt xs i).s = n ∨ ((oAt xs i).e = n ∧ (oAt xs i).e ≠ -1))
instance (xs : List Op5) (k : Nat) (n : Int) : Decidable (oTaken xs k n) := by unfold oTaken; infer_instance
def oLast (xs : List Op5) : Nat → Int → Option Op5
  | 0, _ => none
  | k + 1, p => if (oAt xs k).p = p then some (oAt xs k) else oLast xs k p
def OChk (xs : List Op5) (at' c : Int) : Prop :=
  (5000 < xs.length ∧ at' = 0 ∧ c = 3) ∨ (xs.length ≤ 5000 ∧ ∃ i : Nat, i < xs.length ∧ oGood xs i ∧ oErr xs i ≠ 0 ∧ at' = i ∧ c = oErr xs i) ∨ (xs.length ≤ 5000 ∧ oGood xs xs.length ∧ at' = xs.length ∧ c = 0)
def oPairs (xs : List Op5) : List (Int × Int) := (List.range xs.length).flatMap fun i => ((List.range xs.length).filter fun j => oAhead (oAt xs i) (oAt xs j)).map fun j : Nat => ((i : Int), (j : Int))
def oPend (xs : List Op5) : List Int := ((List.range xs.length).filter fun i => decide ((oAt xs i).e = -1)).map fun i : Nat => (i : Int)
end Go.Proofs.Ytpfbcjlgbdbcpaa
