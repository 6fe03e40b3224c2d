import Derived.Test.YtfpmfjmjnmjcdaaMgAL
import Derived.Test.YtfpmfjmjnmjcdaaProg
import Derived.Test.YtfpmfjmjnmjcdaaMgAF
namespace Go.Proofs.Ytfpmfjmjnmjcdaa
open Go.RowKit
set_option linter.unusedVariables false
set_option linter.unusedSimpArgs false
section
variable {P : Program} {m : Nat} {G0 : Gh} {H : AHeap}
def ADM0 (P : Program) (m : Nat) (G0 : Gh) (ops : Array Oper) (H : AHeap) (K : List AV → MS → Prop) : List Oper → List Kd → List AV → MS → Prop
  | [], _, fr, M => K fr M
  | o :: l, al, fr, M => ∃ x M', Op3 P m G0 ops H o fr M M' x (al.headD .free).al ∧ ADM0 P m G0 ops H K l al.tail (putL fr o.dst x) M'
theorem op3_strip {ops : List Oper} {n : Nat} (hn : topD (dsts ops) ≤ n) {o : Oper} {fr : List AV} {M M' : MS} {x : AV} {b : Bool} (h : Op3 P m G0 (idB n) H (strip (dsts ops) o) fr M M' x b) : Op3 P m G0 ops.toArray H o fr M M' x b := by
  cases h with
  | skip e h2 => exact .skip e (by rw [← awanted_strip hn]; exact h2)
  | does x e h1 h2 => exact .does _ e (by rw [← awanted_strip hn]; exact h1) (does_strip hn h2)
  | turn x h1 h2 =>
    refine .turn _ (by rw [← awanted_strip hn]; exact h1) fun Q G a w K hl hM hi hk => ?_
    rw [← wp_strip (dsts ops)]
    exact h2 Q G a w K hl hM hi ⟨hk.1, fun t ht => hk.2 t (by rw [← looks_strip hn]; exact ht)⟩
theorem ADM0_strip {ops : List Oper} {n : Nat} (hn : topD (dsts ops) ≤ n) {K : List AV → MS → Prop} : ∀ {l : List Oper} {al : List Kd} {fr : List AV} {M : MS}, ADM0 P m G0 (idB n) H K (l.map (strip (dsts ops))) al fr M → ADM0 P m G0 ops.toArray H K l al fr M
  | [], al, fr, M, h => h
  | o :: l, al, fr, M, h => by
    obtain ⟨x, M', h1, h2⟩ := h
    exact ⟨x, M', op3_strip hn h1, ADM0_strip hn h2⟩
theorem ADM0.fns {ops : Array Oper} {K : List AV → MS → Prop} : ∀ {l : List Oper} {al : List Kd} {fr : List AV} {M : MS}, ADM0 P m G0 ops H K l al fr M →
    ∃ (X : Nat → AV) (F : Nat → List AV) (Mk : Nat → MS), F 0 = fr ∧ Mk 0 = M ∧ K (F l.length) (Mk l.length) ∧ ∀ j o, l[j]? = some o → Op3 P m G0 ops H o (F j) (Mk j) (Mk (j + 1)) (X j) (al.getD j .free).al ∧ F (j + 1) = putL (F j) o.dst (X j)
  | [], al, fr, M, h => ⟨fun _ => uD, fun _ => fr, fun _ => M, rfl, rfl, h, fun j o e => by simp at e⟩
  | o :: l, al, fr, M, h => by
    obtain ⟨x, M', h1, h2⟩ := h
    obtain ⟨X, F, Mk, e1, e2, e3, e4⟩ := ADM0.fns h2
    refine ⟨consF x X, consF fr F, consF M Mk, rfl, rfl, e3, fun j o' e => ?_⟩
    cases j with
    | zero =>
      simp only [List.getElem?_cons_zero, Option.some.injEq] at e; subst e
      refine ⟨?_, e1⟩
      show Op3 P m G0 ops H o fr M (Mk 0) x (al.getD 0 .free).al
      rw [e2]
      cases al <;> exact h1
    | succ j =>
      simp only [List.getElem?_cons_succ] at e
      have := e4 j o' e
      cases al <;> exact this
def ADX (P : Program) (m : Nat) (H : AHeap) (K : List AV → MS → Prop) (p : List Oper × List Kd × List AV × MS) : Prop := ∀ n, p.2.2.1.length ≤ n → ∀ G0, ADM0 P m G0 (idB n) H K p.1 p.2.1 p.2.2.1 p.2.2.2
def mapOp : Op → Bool
  | .mapUpdate _ _ _ _ | .lookup _ _ _ _ => true
  | .call c => match c.callee with
    | .builtin .delete => true
    | _ => false
  | _ => false
def alM (l : List Oper) : List Kd := l.map fun o => if mapOp o.op = true then .grow else .free
variable {tt : TT} {fr : List AV} {o : Oper} {l : List Oper} {al : List Kd} {K : List AV → MS → Prop} {M : MS}
theorem ADX_nil (h : K fr M) : ADX P m H K ([], al, fr, M) := fun n hn G0 => h
theorem ADX_id {p : List Oper × List Kd × List AV × MS} (h : ADX P m H K p) : ADX P m H K p := h
theorem ADX_op (hT : TyOK P tt) (hr : roOp o.op = true) (hw : wantedS fr o = some true) (h : match aop tt ⟨fr, H⟩ o with | some (x, _) => ADX P m H K (l, al, putL fr o.dst x, M) | none => False) : ADX P m H K (o :: l, .free :: al, fr, M) := fun n hn G0 => by
  cases hx : aop tt ⟨fr, H⟩ o with
  | none => rw [hx] at h; exact h.elim
  | some p =>
    obtain ⟨x, H'⟩ := p
    rw [hx] at h
    have := aop_ro hr hx
    subst this
    exact ⟨x, M, .does x rfl (wanted_iff hn hw) (does_aop hT hx), h n (by show (putL _ _ _).length ≤ n; rw [putL_len]; exact hn) G0⟩
theorem ADX_skip (hw : wantedS fr o = some false) (h : ADX P m H K (l, al, putL fr o.dst uD, M)) : ADX P m H K (o :: l, .free :: al, fr, M) := fun n hn G0 =>
  ⟨uD, M, .skip rfl (wanted_iff hn hw), h n (by show (putL _ _ _).length ≤ n; rw [putL_len]; exact hn) G0⟩
theorem AX_drawM {Q : Exit → XS → Prop} (hmx : P.follows .mixedOrders = true) {id : Nat} {ops : List Oper} (hord : ordOK ops.toArray ops.length (alM ops) = true)
    (h : ∀ (K : List AV → MS → Prop), (∀ F M', Q .normal ⟨F, H, M'⟩ → K F M') → ADX P m H K (ops.map (strip (dsts ops)), alM ops, fr, M)) : AX P m (.region id ops.toArray true) Q ⟨fr, H, M⟩ := fun G0 G a w hm hl0 hM hr => by
  have hsz : ops.toArray.size = ops.length := by simp
  have ord : Ord ops.toArray ops.toArray.size (alM ops) := by rw [hsz]; exact ord_of hord
  obtain ⟨X, F, Mk, e1, e2, e3, e4⟩ := (ADM0_strip (n := max fr.length (topD (dsts ops))) (Nat.le_max_right _ _) (h (fun F M' => Q .normal ⟨F, H, M'⟩) (fun _ _ h => h) (max fr.length (topD (dsts ops))) (Nat.le_max_left _ _) G0)).fns
  refine wp_region_any hmx ?_
  refine any3 (m := m) (G0 := G0) (H := H) (X := X) (F := F) (Mk := Mk) ord ⟨fun k o ho => e4 k o (by simpa using ho)⟩ hm (R := PostX m G0 Q) (fun G' a' w' k1 k2 k3 => ⟨G', ⟨F ops.toArray.size, H, Mk ops.toArray.size⟩, k1, k2, hm, k3, by rw [hsz]; exact e3⟩) ops.toArray.size (Array.replicate ops.toArray.size false) a { w with drawn := w.drawn + 1 } G 0 ?_ ?_ hr.defers ?_ (Nat.zero_le _) ?_ hr.inv.drew hl0 (by rw [e2]; exact hM)
  · simp [left]
  · refine ⟨by simp, fun j hj => ?_⟩
    simp [Array.getD] at hj
  · refine ⟨by rw [e1]; have := hr.fr.1; simp at this; exact this.symm, fun t j ht hj hl => ?_, fun t ht _ => ?_⟩
    · simp [Array.getD] at hl
    · rw [e1, arr_getD]; exact hr.fr.getD t
  · intro j hj ha
    simp [Array.getD]
theorem AX_drawM1 {Q : Exit → XS → Prop} (hmx : P.follows .mixedOrders = true) {id : Nat} {ops : List Oper} (hany : (ops.any fun o => mapOp o.op) = true) (hord : ordOK ops.toArray ops.length (alM ops) = true)
    (h : ∀ (K : List AV → MS → Prop), (∀ F M', Q .normal ⟨F, H, M'⟩ → K F M') → ADX P m H K (ops.map (strip (dsts ops)), alM ops, fr, M)) : AX P m (.region id ops.toArray true) Q ⟨fr, H, M⟩ := AX_drawM hmx hord h
end
section
variable {m : Nat} {H : AHeap} {fr : List AV} {l : List Oper} {al : List Kd} {K : List AV → MS → Prop} {M : MS} {t e : TypeId} {d : Option Tmp} {ty : TypeId} {pos : String} {after : Array Edge} {g : Option (Nat × Bool)}
end
end Go.Proofs.Ytfpmfjmjnmjcdaa
namespace Go.Proofs.Ytfpmfjmjnmjcdaa
open Go.RowKit
def tyTab : List (Option TyRow) := [
  none,
  none,
  some { kind := TyKind.int IntKind.i64, size := 1, bytes := 8, zero := [Value.int IntKind.i64 0] },
  some { kind := TyKind.int IntKind.i64, size := 1, bytes := 8, zero := [Value.int IntKind.i64 0] },
  some { kind := TyKind.bool, size := 1, bytes := 1, zero := [Value.bool false] },
  some { kind := TyKind.int IntKind.u8, size := 1, bytes := 1, zero := [Value.int IntKind.u8 0] },
  none,
  some { kind := TyKind.st [(2, 0), (3, 1), (4, 2), (6, 3)], size := 4, bytes := 24, zero := [Value.int IntKind.i64 0, Value.int IntKind.i64 0, Value.bool false, Value.int IntKind.u8 0] },
  none,
  some { kind := TyKind.str, size := 1, bytes := 16, zero := [Value.string ByteArray.empty] },
  none,
  none,
  some { kind := TyKind.int IntKind.u64, size := 1, bytes := 8, zero := [Value.int IntKind.u64 0] },
  some { kind := TyKind.st [(9, 0), (12, 1)], size := 2, bytes := 24, zero := [Value.string ByteArray.empty, Value.int IntKind.u64 0] },
  none,
  none,
  none,
  none,
  some { kind := TyKind.st [(17, 0)], size := 1, bytes := 8, zero := [Value.pointer none] },
  none,
  some { kind := TyKind.other, size := 1, bytes := 16, zero := [Value.nilIface] },
  some { kind := TyKind.int IntKind.i32, size := 1, bytes := 4, zero := [Value.int IntKind.i32 0] },
  some { kind := TyKind.sl 37, size := 1, bytes := 24, zero := [Value.slice none 0 0] },
  none,
  some { kind := TyKind.ptr 57, size := 1, bytes := 8, zero := [Value.pointer none] },
  some { kind := TyKind.int IntKind.i64, size := 1, bytes := 8, zero := [Value.int IntKind.i64 0] },
  none,
  none,
  some { kind := TyKind.sl 49, size := 1, bytes := 24, zero := [Value.slice none 0 0] },
  some { kind := TyKind.st [(3, 0), (28, 1), (3, 2)], size := 3, bytes := 40, zero := [Value.int IntKind.i64 0, Value.slice none 0 0, Value.int IntKind.i64 0] },
  some { kind := TyKind.st [(3, 0), (28, 1), (3, 2)], size := 3, bytes := 40, zero := [Value.int IntKind.i64 0, Value.slice none 0 0, Value.int IntKind.i64 0] },
  none,
  none,
  some { kind := TyKind.sl 3, size := 1, bytes := 24, zero := [Value.slice none 0 0] },
  none,
  none,
  some { kind := TyKind.st [(3, 0), (3, 1), (3, 2)], size := 3, bytes := 24, zero := [Value.int IntKind.i64 0, Value.int IntKind.i64 0, Value.int IntKind.i64 0] },
  some { kind := TyKind.st [(3, 0), (3, 1), (3, 2)], size := 3, bytes := 24, zero := [Value.int IntKind.i64 0, Value.int IntKind.i64 0, Value.int IntKind.i64 0] },
  none,
  none,
  none,
  none,
  none,
  none,
  none,
  none,
  none,
  some { kind := TyKind.other, size := 1, bytes := 8, zero := [Value.nilFunc] },
  some { kind := TyKind.st [(3, 0), (3, 1), (3, 2)], size := 3, bytes := 24, zero := [Value.int IntKind.i64 0, Value.int IntKind.i64 0, Value.int IntKind.i64 0] },
  some { kind := TyKind.st [(3, 0), (3, 1), (3, 2)], size := 3, bytes := 24, zero := [Value.int IntKind.i64 0, Value.int IntKind.i64 0, Value.int IntKind.i64 0] },
  none,
  none,
  none,
  none,
  some { kind := TyKind.sl 73, size := 1, bytes := 24, zero := [Value.slice none 0 0] },
  some { kind := TyKind.sl 70, size := 1, bytes := 24, zero := [Value.slice none 0 0] },
  some { kind := TyKind.st [(33, 0), (33, 1), (54, 2), (55, 3), (4, 4)], size := 5, bytes := 104, zero := [Value.slice none 0 0, Value.slice none 0 0, Value.slice none 0 0, Value.slice none 0 0, Value.bool false] },
  some { kind := TyKind.st [(33, 0), (33, 1), (54, 2), (55, 3), (4, 4)], size := 5, bytes := 104, zero := [Value.slice none 0 0, Value.slice none 0 0, Value.slice none 0 0, Value.slice none 0 0, Value.bool false] },
  none,
  none,
  none,
  none,
  none,
  none,
  none,
  none,
  none,
  none,
  none,
  none,
  some { kind := TyKind.int IntKind.i8, size := 1, bytes := 1, zero := [Value.int IntKind.i8 0] },
  none,
  some { kind := TyKind.st [(3, 0), (3, 1), (3, 2)], size := 3, bytes := 24, zero := [Value.int IntKind.i64 0, Value.int IntKind.i64 0, Value.int IntKind.i64 0] },
  some { kind := TyKind.st [(3, 0), (3, 1), (3, 2)], size := 3, bytes := 24, zero := [Value.int IntKind.i64 0, Value.int IntKind.i64 0, Value.int IntKind.i64 0] },
  some { kind := TyKind.int IntKind.i64, size := 1, bytes := 8, zero := [Value.int IntKind.i64 0] },
  none,
  some { kind := TyKind.st [(17, 0), (17, 1), (17, 2), (9, 3)], size := 4, bytes := 40, zero := [Value.pointer none, Value.pointer none, Value.pointer none, Value.string ByteArray.empty] },
  none,
  none,
  some { kind := TyKind.st [(78, 0)], size := 0, bytes := 0, zero := [] },
  none,
  some { kind := TyKind.int IntKind.u32, size := 1, bytes := 4, zero := [Value.int IntKind.u32 0] },
  none,
  none,
  none,
  some { kind := TyKind.ptr 5, size := 1, bytes := 8, zero := [Value.pointer none] },
  none,
  none,
  some { kind := TyKind.st [(12, 0), (12, 1), (81, 2), (82, 3), (5, 4), (5, 5), (83, 6), (84, 7), (85, 8), (86, 9), (87, 10)], size := 11, bytes := 48, zero := [Value.int IntKind.u64 0, Value.int IntKind.u64 0, Value.int IntKind.u32 0, Value.int IntKind.u8 0, Value.int IntKind.u8 0, Value.int IntKind.u8 0, Value.int IntKind.u8 0, Value.nilFunc, Value.pointer none, Value.int IntKind.i32 0, Value.int IntKind.i32 0] },
  none,
  none]
def tt : TT := fun t => (tyTab[t]?).getD none
theorem tyTab_ok : ((List.range 91).map fun t => if ((tyTab[t]?).getD none).isSome then tyRow Try.prog t else none) = tyTab := by kernel_rfl
theorem tyOK : TyOK Try.prog tt := fun t r h => by
  have h' : (tyTab[t]?).getD none = some r := h
  have hlt : t < 91 := by
    rcases Nat.lt_or_ge t 91 with h1 | h1
    · exact h1
    · rw [List.getElem?_eq_none (by show _ ≤ t; exact h1)] at h'; cases h'
  have e := congrArg (fun l => l[t]?) tyTab_ok
  simp only [List.getElem?_map, List.getElem?_range hlt, Option.map_some] at e
  rw [h'] at e
  rw [← e] at h'
  simpa using h'
theorem tt_2 : tt 2 = some { kind := TyKind.int IntKind.i64, size := 1, bytes := 8, zero := [Value.int IntKind.i64 0] } := rfl
theorem tt_3 : tt 3 = some { kind := TyKind.int IntKind.i64, size := 1, bytes := 8, zero := [Value.int IntKind.i64 0] } := rfl
theorem tt_4 : tt 4 = some { kind := TyKind.bool, size := 1, bytes := 1, zero := [Value.bool false] } := rfl
theorem tt_5 : tt 5 = some { kind := TyKind.int IntKind.u8, size := 1, bytes := 1, zero := [Value.int IntKind.u8 0] } := rfl
theorem tt_7 : tt 7 = some { kind := TyKind.st [(2, 0), (3, 1), (4, 2), (6, 3)], size := 4, bytes := 24, zero := [Value.int IntKind.i64 0, Value.int IntKind.i64 0, Value.bool false, Value.int IntKind.u8 0] } := rfl
theorem tt_9 : tt 9 = some { kind := TyKind.str, size := 1, bytes := 16, zero := [Value.string ByteArray.empty] } := rfl
theorem tt_12 : tt 12 = some { kind := TyKind.int IntKind.u64, size := 1, bytes := 8, zero := [Value.int IntKind.u64 0] } := rfl
theorem tt_13 : tt 13 = some { kind := TyKind.st [(9, 0), (12, 1)], size := 2, bytes := 24, zero := [Value.string ByteArray.empty, Value.int IntKind.u64 0] } := rfl
theorem tt_18 : tt 18 = some { kind := TyKind.st [(17, 0)], size := 1, bytes := 8, zero := [Value.pointer none] } := rfl
theorem tt_20 : tt 20 = some { kind := TyKind.other, size := 1, bytes := 16, zero := [Value.nilIface] } := rfl
theorem tt_21 : tt 21 = some { kind := TyKind.int IntKind.i32, size := 1, bytes := 4, zero := [Value.int IntKind.i32 0] } := rfl
theorem tt_22 : tt 22 = some { kind := TyKind.sl 37, size := 1, bytes := 24, zero := [Value.slice none 0 0] } := rfl
theorem tt_24 : tt 24 = some { kind := TyKind.ptr 57, size := 1, bytes := 8, zero := [Value.pointer none] } := rfl
theorem tt_25 : tt 25 = some { kind := TyKind.int IntKind.i64, size := 1, bytes := 8, zero := [Value.int IntKind.i64 0] } := rfl
theorem tt_28 : tt 28 = some { kind := TyKind.sl 49, size := 1, bytes := 24, zero := [Value.slice none 0 0] } := rfl
theorem tt_29 : tt 29 = some { kind := TyKind.st [(3, 0), (28, 1), (3, 2)], size := 3, bytes := 40, zero := [Value.int IntKind.i64 0, Value.slice none 0 0, Value.int IntKind.i64 0] } := rfl
theorem tt_30 : tt 30 = some { kind := TyKind.st [(3, 0), (28, 1), (3, 2)], size := 3, bytes := 40, zero := [Value.int IntKind.i64 0, Value.slice none 0 0, Value.int IntKind.i64 0] } := rfl
theorem tt_33 : tt 33 = some { kind := TyKind.sl 3, size := 1, bytes := 24, zero := [Value.slice none 0 0] } := rfl
theorem tt_36 : tt 36 = some { kind := TyKind.st [(3, 0), (3, 1), (3, 2)], size := 3, bytes := 24, zero := [Value.int IntKind.i64 0, Value.int IntKind.i64 0, Value.int IntKind.i64 0] } := rfl
theorem tt_37 : tt 37 = some { kind := TyKind.st [(3, 0), (3, 1), (3, 2)], size := 3, bytes := 24, zero := [Value.int IntKind.i64 0, Value.int IntKind.i64 0, Value.int IntKind.i64 0] } := rfl
theorem tt_47 : tt 47 = some { kind := TyKind.other, size := 1, bytes := 8, zero := [Value.nilFunc] } := rfl
theorem tt_48 : tt 48 = some { kind := TyKind.st [(3, 0), (3, 1), (3, 2)], size := 3, bytes := 24, zero := [Value.int IntKind.i64 0, Value.int IntKind.i64 0, Value.int IntKind.i64 0] } := rfl
theorem tt_49 : tt 49 = some { kind := TyKind.st [(3, 0), (3, 1), (3, 2)], size := 3, bytes := 24, zero := [Value.int IntKind.i64 0, Value.int IntKind.i64 0, Value.int IntKind.i64 0] } := rfl
theorem tt_54 : tt 54 = some { kind := TyKind.sl 73, size := 1, bytes := 24, zero := [Value.slice none 0 0] } := rfl
theorem tt_55 : tt 55 = some { kind := TyKind.sl 70, size := 1, bytes := 24, zero := [Value.slice none 0 0] } := rfl
theorem tt_56 : tt 56 = some { kind := TyKind.st [(33, 0), (33, 1), (54, 2), (55, 3), (4, 4)], size := 5, bytes := 104, zero := [Value.slice none 0 0, Value.slice none 0 0, Value.slice none 0 0, Value.slice none 0 0, Value.bool false] } := rfl
theorem tt_57 : tt 57 = some { kind := TyKind.st [(33, 0), (33, 1), (54, 2), (55, 3), (4, 4)], size := 5, bytes := 104, zero := [Value.slice none 0 0, Value.slice none 0 0, Value.slice none 0 0, Value.slice none 0 0, Value.bool false] } := rfl
theorem tt_70 : tt 70 = some { kind := TyKind.int IntKind.i8, size := 1, bytes := 1, zero := [Value.int IntKind.i8 0] } := rfl
theorem tt_72 : tt 72 = some { kind := TyKind.st [(3, 0), (3, 1), (3, 2)], size := 3, bytes := 24, zero := [Value.int IntKind.i64 0, Value.int IntKind.i64 0, Value.int IntKind.i64 0] } := rfl
theorem tt_73 : tt 73 = some { kind := TyKind.st [(3, 0), (3, 1), (3, 2)], size := 3, bytes := 24, zero := [Value.int IntKind.i64 0, Value.int IntKind.i64 0, Value.int IntKind.i64 0] } := rfl
theorem tt_74 : tt 74 = some { kind := TyKind.int IntKind.i64, size := 1, bytes := 8, zero := [Value.int IntKind.i64 0] } := rfl
theorem tt_76 : tt 76 = some { kind := TyKind.st [(17, 0), (17, 1), (17, 2), (9, 3)], size := 4, bytes := 40, zero := [Value.pointer none, Value.pointer none, Value.pointer none, Value.string ByteArray.empty] } := rfl
theorem tt_79 : tt 79 = some { kind := TyKind.st [(78, 0)], size := 0, bytes := 0, zero := [] } := rfl
theorem tt_81 : tt 81 = some { kind := TyKind.int IntKind.u32, size := 1, bytes := 4, zero := [Value.int IntKind.u32 0] } := rfl
theorem tt_85 : tt 85 = some { kind := TyKind.ptr 5, size := 1, bytes := 8, zero := [Value.pointer none] } := rfl
theorem tt_88 : tt 88 = some { kind := TyKind.st [(12, 0), (12, 1), (81, 2), (82, 3), (5, 4), (5, 5), (83, 6), (84, 7), (85, 8), (86, 9), (87, 10)], size := 11, bytes := 48, zero := [Value.int IntKind.u64 0, Value.int IntKind.u64 0, Value.int IntKind.u32 0, Value.int IntKind.u8 0, Value.int IntKind.u8 0, Value.int IntKind.u8 0, Value.int IntKind.u8 0, Value.nilFunc, Value.pointer none, Value.int IntKind.i32 0, Value.int IntKind.i32 0] } := rfl
end Go.Proofs.Ytfpmfjmjnmjcdaa
namespace Go.Proofs.Ytfpmfjmjnmjcdaa
set_option linter.unusedVariables false
mutual
theorem rn_id : ∀ x : AV, x.rn (fun o => o) = x
  | .iv x => rfl
  | .agg xs => by unfold AV.rn; rw [rnL_id xs]
  | .tup xs => by unfold AV.rn; rw [rnL_id xs]
  | .osl o off len sz => rfl
  | .optr o off => rfl
  | .fn f first caps => by unfold AV.rn; rw [rnL_id first, rnL_id caps]
theorem rnL_id : ∀ xs : List AV, rnL (fun o => o) xs = xs
  | [] => rfl
  | x :: xs => by unfold rnL; rw [rn_id x, rnL_id xs]
end
mutual
theorem idB_true : ∀ x : AV, x.idB (fun _ => true) = true
  | .iv x => rfl
  | .agg xs => by unfold AV.idB; exact idL_true xs
  | .tup xs => by unfold AV.idB; exact idL_true xs
  | .osl o off len sz => rfl
  | .optr o off => rfl
  | .fn f first caps => by unfold AV.idB; rw [idL_true first, idL_true caps]; rfl
theorem idL_true : ∀ xs : List AV, idL (fun _ => true) xs = true
  | [] => rfl
  | x :: xs => by unfold idL; rw [idB_true x, idL_true xs]; rfl
end
def shN (n k o : Nat) : Nat := if o < n then o else o + k
def frH (n : Nat) (X H1 : AHeap) : AHeap := (H1.take n).map (Option.map (AObj.rn (shN n X.length))) ++ X ++ (H1.drop n).map (Option.map (AObj.rn (shN n X.length)))
theorem frH_at {n : Nat} {X H1 : AHeap} (hn : n ≤ H1.length) {o : Nat} {x : AObj} (h : (frH n X H1)[o]? = some (some x)) : (∃ q y, o = shN n X.length q ∧ q < H1.length ∧ H1[q]? = some (some y) ∧ x = y.rn (shN n X.length)) ∨ (∃ j, o = n + j ∧ j < X.length ∧ X[j]? = some (some x)) := by
  have hl : ((H1.take n).map (Option.map (AObj.rn (shN n X.length)))).length = n := by simp [Nat.min_eq_left hn]
  unfold frH at h
  by_cases h1 : o < n
  · rw [List.append_assoc, List.getElem?_append_left (by rw [hl]; exact h1), List.getElem?_map, List.getElem?_take_of_lt h1] at h
    obtain ⟨z, hz, hz2⟩ := Option.map_eq_some_iff.1 h
    obtain ⟨y, rfl, rfl⟩ := Option.map_eq_some_iff.1 hz2
    exact .inl ⟨o, y, by unfold shN; rw [if_pos h1], by omega, hz, rfl⟩
  · rw [List.append_assoc, List.getElem?_append_right (by rw [hl]; omega), hl] at h
    by_cases h2 : o - n < X.length
    · rw [List.getElem?_append_left h2] at h
      exact .inr ⟨o - n, by omega, h2, h⟩
    · rw [List.getElem?_append_right (by omega), List.getElem?_map, List.getElem?_drop] at h
      obtain ⟨z, hz, hz2⟩ := Option.map_eq_some_iff.1 h
      obtain ⟨y, rfl, rfl⟩ := Option.map_eq_some_iff.1 hz2
      have := (List.getElem?_eq_some_iff.1 hz).1
      exact .inl ⟨n + (o - n - X.length), y, by unfold shN; rw [if_neg (by omega)]; omega, this, hz, rfl⟩
theorem frH_len {n : Nat} {X H1 : AHeap} (hn : n ≤ H1.length) : (frH n X H1).length = H1.length + X.length := by unfold frH; simp; omega
variable {P : Program}
open Classical in
theorem SF.frame {f : FuncId} {args : List AV} {H : AHeap} {Q : AV → AHeap → Prop} (X : AHeap) (hargs : idL (fun o => decide (o < H.length)) args = true) (hH : okH (fun o => decide (o < H.length)) H = true) (h : SF P f args H Q) : SF P f args (H ++ X) (fun r H' => ∃ r1 H1, H.length ≤ H1.length ∧ Q r1 H1 ∧ r = r1.rn (shN H.length X.length) ∧ H' = frH H.length X H1) := by
  refine ⟨h.callable, fun G w vs hi hr => ?_⟩
  have hXl : (H ++ X).length = H.length + X.length := List.length_append
  have atX : ∀ {j : Nat} {x : AObj}, X[j]? = some (some x) → (H ++ X)[H.length + j]? = some (some x) := fun {j x} e => by
    rw [List.getElem?_append_right (by omega), Nat.add_sub_cancel_left]; exact e
  have atH' : ∀ {o : Nat} {x : AObj}, H[o]? = some (some x) → (H ++ X)[o]? = some (some x) := fun {o x} e => by
    rw [List.getElem?_append_left (List.getElem?_eq_some_iff.1 e).1]; exact e
  let bX : Nat → Prop := fun b => ∃ j x, X[j]? = some (some x) ∧ G.sz (H.length + j) ≠ 0 ∧ (G.mu (H.length + j)).1 = b
  let G1 : Gh := { G with kp := fun b => if bX b then w.heap[b]? else G.kp b, dom := fun o => o < H.length ∧ G.dom o }
  have kp1 : ∀ {b : Nat} {x : Obj}, G.kp b = some x → G1.kp b = some x := fun {b x} e => by
    show (if bX b then w.heap[b]? else G.kp b) = some x
    split
    · exact hi.kp b x e
    · exact e
  have kpX : ∀ {j : Nat} {x : AObj}, X[j]? = some (some x) → G.sz (H.length + j) ≠ 0 → ∃ z, w.heap[(G.mu (H.length + j)).1]? = some z ∧ G1.kp (G.mu (H.length + j)).1 = some z := fun {j x} e hs => by
    obtain ⟨_, cs, k1, _⟩ := (hi.obj _ x (atX e)).resolve_left fun q => hs q.2
    refine ⟨_, k1, ?_⟩
    show (if bX (G.mu (H.length + j)).1 then w.heap[(G.mu (H.length + j)).1]? else _) = _
    rw [if_pos ⟨j, x, e, hs, rfl⟩]; exact k1
  have ra1 : ∀ {x : AV} {v : Value}, RA (H ++ X).length G x v → x.idB (fun o => decide (o < H.length)) = true → RA H.length G1 x v := fun {x v} hx hid => by
    have := RA.rn (n' := H.length) (G' := G1) (r := fun o => o) (p := fun o => decide (o < H.length)) (fun o ho hd => ⟨by simpa using ho, hd⟩) (fun _ _ => rfl) (fun _ _ => rfl) (fun _ _ e => e) hx hid
    rw [rn_id] at this; exact this
  have hi1 : Inv G1 H w := by
    refine ⟨hi.os, hi.tape, hi.output, hi.fz, fun b x e => ?_, fun o ho => ho.1, fun o x e => ⟨(List.getElem?_eq_some_iff.1 e).1, hi.live o x (atH' e)⟩, fun o x e => ?_, fun o o' x x' e e' hne z z' => hi.inj o o' x x' (atH' e) (atH' e') hne z z'⟩
    · have e' : (if bX b then w.heap[b]? else G.kp b) = some x := e
      split at e'
      · exact e'
      · exact hi.kp b x e'
    · refine (hi.obj o x (atH' e)).imp id fun ⟨c1, cs, k1, k2, k3, k4, k5, k6⟩ => ⟨c1, cs, k1, k2, ⟨k3.1, fun i y u e1 e2 => ra1 (k3.2 i y u e1 e2) ?_⟩, k4, k5, ?_⟩
      · have := okH_at hH e
        rw [idL_all, List.all_eq_true] at this
        exact this y (List.mem_iff_getElem?.2 ⟨i, e1⟩)
      · show (if bX (G.mu o).1 then w.heap[(G.mu o).1]? else G.kp (G.mu o).1) = none
        rw [if_neg]
        · exact k6
        · rintro ⟨j, x', e', hs, hb⟩
          exact hi.inj _ _ _ _ (atX e') (atH' e) (by have := (List.getElem?_eq_some_iff.1 e).1; omega) hs c1 hb
  have hr1 : RL H.length G1 args vs := ⟨hr.1, fun i x v e e' => ra1 (hr.2 i x v e e') (by
    rw [idL_all, List.all_eq_true] at hargs
    exact hargs x (List.mem_iff_getElem?.2 ⟨i, e⟩))⟩
  refine (h.calls G1 w vs hi1 hr1).mono fun e w' ⟨v, r1, G1', H1, e1, hle, hln, hi', hx, hq⟩ => ?_
  let G' : Gh := { G1' with dom := fun o => if o < H.length then G1'.dom o else if o < H.length + X.length then G.dom o else G1'.dom (o - X.length), mu := fun o => if o < H.length then G1'.mu o else if o < H.length + X.length then G.mu o else G1'.mu (o - X.length), sz := fun o => if o < H.length then G1'.sz o else if o < H.length + X.length then G.sz o else G1'.sz (o - X.length), kp := G.kp }
  have dN : ∀ q, G'.dom (shN H.length X.length q) ↔ G1'.dom q := fun q => by
    show (if _ then _ else _) ↔ _
    unfold shN
    by_cases hq : q < H.length
    · rw [if_pos hq, if_pos hq]
    · rw [if_neg hq, if_neg (by omega), if_neg (by omega), Nat.add_sub_cancel]
  have mN : ∀ q, G'.mu (shN H.length X.length q) = G1'.mu q := fun q => by
    show (if _ then _ else _) = _
    unfold shN
    by_cases hq : q < H.length
    · rw [if_pos hq, if_pos hq]
    · rw [if_neg hq, if_neg (by omega), if_neg (by omega), Nat.add_sub_cancel]
  have sN : ∀ q, G'.sz (shN H.length X.length q) = G1'.sz q := fun q => by
    show (if _ then _ else _) = _
    unfold shN
    by_cases hq : q < H.length
    · rw [if_pos hq, if_pos hq]
    · rw [if_neg hq, if_neg (by omega), if_neg (by omega), Nat.add_sub_cancel]
  have dX : ∀ j, j < X.length → (G'.dom (H.length + j) ↔ G.dom (H.length + j)) := fun j hj => by
    show (if _ then _ else _) ↔ _
    rw [if_neg (by omega), if_pos (by omega)]
  have mX : ∀ j, j < X.length → G'.mu (H.length + j) = G.mu (H.length + j) := fun j hj => by
    show (if _ then _ else _) = _
    rw [if_neg (by omega), if_pos (by omega)]
  have sX : ∀ j, j < X.length → G'.sz (H.length + j) = G.sz (H.length + j) := fun j hj => by
    show (if _ then _ else _) = _
    rw [if_neg (by omega), if_pos (by omega)]
  have low : ∀ o, o < H.length → shN H.length X.length o = o := fun o ho => if_pos ho
  have hleG : Gh.le (H ++ X).length G G' := by
    refine ⟨fun o ho => ?_, fun o ho => ?_, fun o ho => ?_, fun o ho hd => ?_, hle.fz, fun b x e => e, fun b x y e f => hle.new b x y (kp1 e) f, hle.os, hle.tape, hle.output⟩
    · have hol := hi.dom o ho; rw [hXl] at hol
      by_cases h1 : o < H.length
      · have := mN o; rw [low o h1] at this; rw [this]; exact hle.mu o ⟨h1, ho⟩
      · have := mX (o - H.length) (by omega); rw [show H.length + (o - H.length) = o by omega] at this; exact this
    · have hol := hi.dom o ho; rw [hXl] at hol
      by_cases h1 : o < H.length
      · have := sN o; rw [low o h1] at this; rw [this]; exact hle.sz o ⟨h1, ho⟩
      · have := sX (o - H.length) (by omega); rw [show H.length + (o - H.length) = o by omega] at this; exact this
    · have hol := hi.dom o ho; rw [hXl] at hol
      by_cases h1 : o < H.length
      · have := dN o; rw [low o h1] at this; exact this.2 (hle.dom o ⟨h1, ho⟩)
      · have := dX (o - H.length) (by omega); rw [show H.length + (o - H.length) = o by omega] at this; exact this.2 ho
    · rw [hXl] at ho
      by_cases h1 : o < H.length
      · have := dN o; rw [low o h1] at this; exact (hle.back o h1 (this.1 hd)).2
      · have := dX (o - H.length) (by omega); rw [show H.length + (o - H.length) = o by omega] at this; exact this.1 hd
  have hold : ∀ {b : Nat} {x : Obj}, G1.kp b = some x → w'.heap[b]? = some x := fun {b x} e => hi'.kp b x (hle.kp b x e)
  have ra2 : ∀ {x : AV} {u : Value} {m : Nat}, RA H1.length G1' x u → RA m G' (x.rn (shN H.length X.length)) u := fun {x u m} hx =>
    RA.rn (G' := G') (r := shN H.length X.length) (p := fun _ => true) (fun o _ hd => (dN o).2 hd) (fun o _ => mN o) (fun o _ => sN o) (fun _ _ e => e) hx (idB_true x)
  have hfl := frH_len (X := X) hln
  refine ⟨v, r1.rn (shN H.length X.length), G', frH H.length X H1, e1, hleG, by rw [hfl, hXl]; omega, ⟨hi'.os, hi'.tape, hi'.output, hi'.fz, fun b x e => hold (kp1 e), fun o ho => ?_, fun o x e => ?_, fun o x e => ?_, fun o o' x x' e e' hne z z' => ?_⟩, ra2 hx, r1, H1, hln, hq, rfl, rfl⟩
  · rw [hfl]
    have ho' : if o < H.length then G1'.dom o else if o < H.length + X.length then G.dom o else G1'.dom (o - X.length) := ho
    by_cases h1 : o < H.length
    · omega
    · rw [if_neg h1] at ho'
      by_cases h2 : o < H.length + X.length
      · omega
      · rw [if_neg h2] at ho'
        have := hi'.dom _ ho'; omega
  · rcases frH_at hln e with ⟨q, y, rfl, _, e2, rfl⟩ | ⟨j, rfl, hj, e2⟩
    · exact (dN q).2 (hi'.live q y e2)
    · exact (dX j hj).2 (hi.live _ x (atX e2))
  · rcases frH_at hln e with ⟨q, y, rfl, _, e2, rfl⟩ | ⟨j, rfl, hj, e2⟩
    · rw [sN]
      refine (hi'.obj q y e2).imp (fun k => ⟨by show rnL _ y.cells = []; rw [k.1]; rfl, k.2⟩) fun ⟨c1, cs, k1, k2, k3, k4, k5, k6⟩ => ⟨c1, cs, ?_⟩
      rw [mN, sN]
      refine ⟨k1, k2, ⟨?_, fun i z u f1 f2 => ?_⟩, by show (rnL _ y.cells).all AV.one = true; rw [rnL_one]; exact k4, k5, ?_⟩
      · show (rnL _ y.cells).length = ((cs.toList.drop _).take (rnL _ y.cells).length).length
        rw [rnL_map, List.length_map]; exact k3.1
      · have f1' : (rnL (shN H.length X.length) y.cells)[i]? = some z := f1
        have f2' : ((cs.toList.drop (G1'.mu q).2).take (rnL (shN H.length X.length) y.cells).length)[i]? = some u := f2
        rw [rnL_map, List.getElem?_map] at f1'
        rw [rnL_map, List.length_map] at f2'
        obtain ⟨z', hz', rfl⟩ := Option.map_eq_some_iff.1 f1'
        exact ra2 (k3.2 i z' u hz' f2')
      · cases hc : G.kp (G1'.mu q).1 with
        | none => rfl
        | some z => rw [hle.kp _ _ (kp1 hc)] at k6; cases k6
    · rw [sX j hj]
      refine (hi.obj _ x (atX e2)).imp id fun ⟨c1, cs, k1, k2, k3, k4, k5, k6⟩ => ⟨c1, cs, ?_⟩
      rw [mX j hj, sX j hj]
      obtain ⟨z, hz1, hz2⟩ := kpX e2 c1
      refine ⟨by rw [hold hz2, ← hz1]; exact k1, k2, k3.mono hleG (by rw [hfl, hXl]; omega), k4, ?_, k6⟩
      cases hc : G1'.fz (G.mu (H.length + j)).1 with
      | none => rfl
      | some y =>
        obtain ⟨z', hz'⟩ := hle.new _ _ y hz2 hc
        rw [show G1.fz = G.fz from rfl, k5] at hz'; cases hz'
  · have sep : ∀ {q j : Nat} {y x : AObj}, H1[q]? = some (some y) → X[j]? = some (some x) → G1'.sz q ≠ 0 → G.sz (H.length + j) ≠ 0 → (G1'.mu q).1 ≠ (G.mu (H.length + j)).1 := fun {q j y x} a1 a2 a3 a4 heq => by
      obtain ⟨_, cs, k1, k2, k3, k4, k5, k6⟩ := (hi'.obj q y a1).resolve_left fun h => a3 h.2
      obtain ⟨z, _, hz2⟩ := kpX a2 a4
      rw [heq, hle.kp _ _ hz2] at k6; cases k6
    rcases frH_at hln e with ⟨q, y, rfl, _, e2, rfl⟩ | ⟨j, rfl, hj, e2⟩ <;> rcases frH_at hln e' with ⟨q', y', rfl, _, e2', rfl⟩ | ⟨j', rfl, hj', e2'⟩
    · rw [sN] at z z'; rw [mN, mN]
      exact hi'.inj q q' y y' e2 e2' (fun h => hne (by rw [h])) z z'
    · rw [sN] at z; rw [sX _ hj'] at z'; rw [mN, mX _ hj']
      exact sep e2 e2' z z'
    · rw [sN] at z'; rw [sX _ hj] at z; rw [mN, mX _ hj]
      exact fun h => sep e2' e2 z' z h.symm
    · rw [sX _ hj] at z; rw [sX _ hj'] at z'; rw [mX _ hj, mX _ hj']
      exact hi.inj _ _ _ _ (atX e2) (atX e2') (by omega) z z'
end Go.Proofs.Ytfpmfjmjnmjcdaa
