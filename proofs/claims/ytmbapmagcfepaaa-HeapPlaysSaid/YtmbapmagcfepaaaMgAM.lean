import Derived.Test.YtmbapmagcfepaaaMgAL
import Derived.Test.YtmbapmagcfepaaaProg
import Derived.Test.YtmbapmagcfepaaaMgAF
import Derived.WalkKit
namespace Go.Proofs.Ytmbapmagcfepaaa
open Go.RowKit
set_option linter.unusedVariables false
set_option linter.unusedSimpArgs false
section
variable {P : Program} {m : Nat} {G0 : Gh} {H : AHeap}
def ADM0 (P : Program) (m : Nat) (G0 : Gh) (ops : Array Oper) (H : AHeap) (K : List AV → MS → Prop) : List Oper → List Kd → List AV → MS → Prop
  | [], _, fr, M => K fr M
  | o :: l, al, fr, M => ∃ x M', Op3 P m G0 ops H o fr M M' x (al.headD .free).al ∧ ADM0 P m G0 ops H K l al.tail (putL fr o.dst x) M'
theorem op3_strip {ops : List Oper} {n : Nat} (hn : topD (dsts ops) ≤ n) {o : Oper} {fr : List AV} {M M' : MS} {x : AV} {b : Bool} (h : Op3 P m G0 (idB n) H (strip (dsts ops) o) fr M M' x b) : Op3 P m G0 ops.toArray H o fr M M' x b := by
  cases h with
  | skip e h2 => exact .skip e (by rw [← awanted_strip hn]; exact h2)
  | does x e h1 h2 => exact .does _ e (by rw [← awanted_strip hn]; exact h1) (does_strip hn h2)
  | turn x h1 h2 =>
    refine .turn _ (by rw [← awanted_strip hn]; exact h1) fun Q G a w K hl hM hi hk => ?_
    rw [← wp_strip (dsts ops)]
    exact h2 Q G a w K hl hM hi ⟨hk.1, fun t ht => hk.2 t (by rw [← looks_strip hn]; exact ht)⟩
theorem ADM0_strip {ops : List Oper} {n : Nat} (hn : topD (dsts ops) ≤ n) {K : List AV → MS → Prop} : ∀ {l : List Oper} {al : List Kd} {fr : List AV} {M : MS}, ADM0 P m G0 (idB n) H K (l.map (strip (dsts ops))) al fr M → ADM0 P m G0 ops.toArray H K l al fr M
  | [], al, fr, M, h => h
  | o :: l, al, fr, M, h => by
    obtain ⟨x, M', h1, h2⟩ := h
    exact ⟨x, M', op3_strip hn h1, ADM0_strip hn h2⟩
theorem ADM0.fns {ops : Array Oper} {K : List AV → MS → Prop} : ∀ {l : List Oper} {al : List Kd} {fr : List AV} {M : MS}, ADM0 P m G0 ops H K l al fr M →
    ∃ (X : Nat → AV) (F : Nat → List AV) (Mk : Nat → MS), F 0 = fr ∧ Mk 0 = M ∧ K (F l.length) (Mk l.length) ∧ ∀ j o, l[j]? = some o → Op3 P m G0 ops H o (F j) (Mk j) (Mk (j + 1)) (X j) (al.getD j .free).al ∧ F (j + 1) = putL (F j) o.dst (X j)
  | [], al, fr, M, h => ⟨fun _ => uD, fun _ => fr, fun _ => M, rfl, rfl, h, fun j o e => by simp at e⟩
  | o :: l, al, fr, M, h => by
    obtain ⟨x, M', h1, h2⟩ := h
    obtain ⟨X, F, Mk, e1, e2, e3, e4⟩ := ADM0.fns h2
    refine ⟨consF x X, consF fr F, consF M Mk, rfl, rfl, e3, fun j o' e => ?_⟩
    cases j with
    | zero =>
      simp only [List.getElem?_cons_zero, Option.some.injEq] at e; subst e
      refine ⟨?_, e1⟩
      show Op3 P m G0 ops H o fr M (Mk 0) x (al.getD 0 .free).al
      rw [e2]
      cases al <;> exact h1
    | succ j =>
      simp only [List.getElem?_cons_succ] at e
      have := e4 j o' e
      cases al <;> exact this
def ADX (P : Program) (m : Nat) (H : AHeap) (K : List AV → MS → Prop) (p : List Oper × List Kd × List AV × MS) : Prop := ∀ n, p.2.2.1.length ≤ n → ∀ G0, ADM0 P m G0 (idB n) H K p.1 p.2.1 p.2.2.1 p.2.2.2
def mapOp : Op → Bool
  | .mapUpdate _ _ _ _ | .lookup _ _ _ _ => true
  | .call c => match c.callee with
    | .builtin .delete => true
    | _ => false
  | _ => false
def alM (l : List Oper) : List Kd := l.map fun o => if mapOp o.op = true then .grow else .free
variable {tt : TT} {fr : List AV} {o : Oper} {l : List Oper} {al : List Kd} {K : List AV → MS → Prop} {M : MS}
theorem ADX_nil (h : K fr M) : ADX P m H K ([], al, fr, M) := fun n hn G0 => h
theorem ADX_id {p : List Oper × List Kd × List AV × MS} (h : ADX P m H K p) : ADX P m H K p := h
theorem ADX_op (hT : TyOK P tt) (hr : roOp o.op = true) (hw : wantedS fr o = some true) (h : match aop tt ⟨fr, H⟩ o with | some (x, _) => ADX P m H K (l, al, putL fr o.dst x, M) | none => False) : ADX P m H K (o :: l, .free :: al, fr, M) := fun n hn G0 => by
  cases hx : aop tt ⟨fr, H⟩ o with
  | none => rw [hx] at h; exact h.elim
  | some p =>
    obtain ⟨x, H'⟩ := p
    rw [hx] at h
    have := aop_ro hr hx
    subst this
    exact ⟨x, M, .does x rfl (wanted_iff hn hw) (does_aop hT hx), h n (by show (putL _ _ _).length ≤ n; rw [putL_len]; exact hn) G0⟩
theorem ADX_skip (hw : wantedS fr o = some false) (h : ADX P m H K (l, al, putL fr o.dst uD, M)) : ADX P m H K (o :: l, .free :: al, fr, M) := fun n hn G0 =>
  ⟨uD, M, .skip rfl (wanted_iff hn hw), h n (by show (putL _ _ _).length ≤ n; rw [putL_len]; exact hn) G0⟩
theorem AX_drawM {Q : Exit → XS → Prop} (hmx : P.follows .mixedOrders = true) {id : Nat} {ops : List Oper} (hord : ordOK ops.toArray ops.length (alM ops) = true)
    (h : ∀ (K : List AV → MS → Prop), (∀ F M', Q .normal ⟨F, H, M'⟩ → K F M') → ADX P m H K (ops.map (strip (dsts ops)), alM ops, fr, M)) : AX P m (.region id ops.toArray true) Q ⟨fr, H, M⟩ := fun G0 G a w hm hl0 hM hr => by
  have hsz : ops.toArray.size = ops.length := by simp
  have ord : Ord ops.toArray ops.toArray.size (alM ops) := by rw [hsz]; exact ord_of hord
  obtain ⟨X, F, Mk, e1, e2, e3, e4⟩ := (ADM0_strip (n := max fr.length (topD (dsts ops))) (Nat.le_max_right _ _) (h (fun F M' => Q .normal ⟨F, H, M'⟩) (fun _ _ h => h) (max fr.length (topD (dsts ops))) (Nat.le_max_left _ _) G0)).fns
  refine wp_region_any hmx ?_
  refine any3 (m := m) (G0 := G0) (H := H) (X := X) (F := F) (Mk := Mk) ord ⟨fun k o ho => e4 k o (by simpa using ho)⟩ hm (R := PostX m G0 Q) (fun G' a' w' k1 k2 k3 => ⟨G', ⟨F ops.toArray.size, H, Mk ops.toArray.size⟩, k1, k2, hm, k3, by rw [hsz]; exact e3⟩) ops.toArray.size (Array.replicate ops.toArray.size false) a { w with drawn := w.drawn + 1 } G 0 ?_ ?_ hr.defers ?_ (Nat.zero_le _) ?_ hr.inv.drew hl0 (by rw [e2]; exact hM)
  · simp [left]
  · refine ⟨by simp, fun j hj => ?_⟩
    simp [Array.getD] at hj
  · refine ⟨by rw [e1]; have := hr.fr.1; simp at this; exact this.symm, fun t j ht hj hl => ?_, fun t ht _ => ?_⟩
    · simp [Array.getD] at hl
    · rw [e1, arr_getD]; exact hr.fr.getD t
  · intro j hj ha
    simp [Array.getD]
theorem AX_drawM1 {Q : Exit → XS → Prop} (hmx : P.follows .mixedOrders = true) {id : Nat} {ops : List Oper} (hany : (ops.any fun o => mapOp o.op) = true) (hord : ordOK ops.toArray ops.length (alM ops) = true)
    (h : ∀ (K : List AV → MS → Prop), (∀ F M', Q .normal ⟨F, H, M'⟩ → K F M') → ADX P m H K (ops.map (strip (dsts ops)), alM ops, fr, M)) : AX P m (.region id ops.toArray true) Q ⟨fr, H, M⟩ := AX_drawM hmx hord h
end
section
variable {m : Nat} {H : AHeap} {fr : List AV} {l : List Oper} {al : List Kd} {K : List AV → MS → Prop} {M : MS} {t e : TypeId} {d : Option Tmp} {ty : TypeId} {pos : String} {after : Array Edge} {g : Option (Nat × Bool)}
end
end Go.Proofs.Ytmbapmagcfepaaa
namespace Go.Proofs.Ytmbapmagcfepaaa
open Go.RowKit
def tyTab : List (Option TyRow) := [
  none,
  none,
  some { kind := TyKind.int IntKind.i64, size := 1, bytes := 8, zero := [Value.int IntKind.i64 0] },
  some { kind := TyKind.int IntKind.i64, size := 1, bytes := 8, zero := [Value.int IntKind.i64 0] },
  some { kind := TyKind.bool, size := 1, bytes := 1, zero := [Value.bool false] },
  some { kind := TyKind.int IntKind.u8, size := 1, bytes := 1, zero := [Value.int IntKind.u8 0] },
  none,
  some { kind := TyKind.st [(2, 0), (3, 1), (4, 2), (6, 3)], size := 4, bytes := 24, zero := [Value.int IntKind.i64 0, Value.int IntKind.i64 0, Value.bool false, Value.int IntKind.u8 0] },
  none,
  some { kind := TyKind.str, size := 1, bytes := 16, zero := [Value.string ByteArray.empty] },
  none,
  none,
  some { kind := TyKind.int IntKind.u64, size := 1, bytes := 8, zero := [Value.int IntKind.u64 0] },
  some { kind := TyKind.st [(9, 0), (12, 1)], size := 2, bytes := 24, zero := [Value.string ByteArray.empty, Value.int IntKind.u64 0] },
  none,
  none,
  none,
  none,
  some { kind := TyKind.st [(17, 0)], size := 1, bytes := 8, zero := [Value.pointer none] },
  none,
  some { kind := TyKind.other, size := 1, bytes := 16, zero := [Value.nilIface] },
  some { kind := TyKind.int IntKind.i32, size := 1, bytes := 4, zero := [Value.int IntKind.i32 0] },
  some { kind := TyKind.sl 37, size := 1, bytes := 24, zero := [Value.slice none 0 0] },
  none,
  some { kind := TyKind.ptr 53, size := 1, bytes := 8, zero := [Value.pointer none] },
  some { kind := TyKind.int IntKind.i64, size := 1, bytes := 8, zero := [Value.int IntKind.i64 0] },
  none,
  none,
  some { kind := TyKind.sl 3, size := 1, bytes := 24, zero := [Value.slice none 0 0] },
  some { kind := TyKind.sl 4, size := 1, bytes := 24, zero := [Value.slice none 0 0] },
  some { kind := TyKind.st [(28, 0), (29, 1)], size := 2, bytes := 48, zero := [Value.slice none 0 0, Value.slice none 0 0] },
  some { kind := TyKind.st [(28, 0), (29, 1)], size := 2, bytes := 48, zero := [Value.slice none 0 0, Value.slice none 0 0] },
  none,
  none,
  none,
  none,
  some { kind := TyKind.st [(3, 0), (3, 1), (3, 2)], size := 3, bytes := 24, zero := [Value.int IntKind.i64 0, Value.int IntKind.i64 0, Value.int IntKind.i64 0] },
  some { kind := TyKind.st [(3, 0), (3, 1), (3, 2)], size := 3, bytes := 24, zero := [Value.int IntKind.i64 0, Value.int IntKind.i64 0, Value.int IntKind.i64 0] },
  none,
  none,
  none,
  none,
  some { kind := TyKind.other, size := 1, bytes := 8, zero := [Value.nilFunc] },
  none,
  some { kind := TyKind.other, size := 1, bytes := 8, zero := [Value.nilFunc] },
  none,
  none,
  none,
  some { kind := TyKind.arr 2 3, size := 2, bytes := 16, zero := [Value.int IntKind.i64 0, Value.int IntKind.i64 0] },
  none,
  none,
  none,
  some { kind := TyKind.st [(28, 0), (28, 1), (28, 2), (4, 3)], size := 4, bytes := 80, zero := [Value.slice none 0 0, Value.slice none 0 0, Value.slice none 0 0, Value.bool false] },
  some { kind := TyKind.st [(28, 0), (28, 1), (28, 2), (4, 3)], size := 4, bytes := 80, zero := [Value.slice none 0 0, Value.slice none 0 0, Value.slice none 0 0, Value.bool false] },
  none,
  none,
  none,
  none,
  none,
  none,
  none,
  none,
  none,
  some { kind := TyKind.st [(17, 0), (17, 1), (17, 2), (9, 3)], size := 4, bytes := 40, zero := [Value.pointer none, Value.pointer none, Value.pointer none, Value.string ByteArray.empty] },
  none,
  none,
  some { kind := TyKind.st [(65, 0)], size := 0, bytes := 0, zero := [] },
  none,
  some { kind := TyKind.int IntKind.u32, size := 1, bytes := 4, zero := [Value.int IntKind.u32 0] },
  none,
  none,
  none,
  some { kind := TyKind.ptr 5, size := 1, bytes := 8, zero := [Value.pointer none] },
  none,
  none,
  some { kind := TyKind.st [(12, 0), (12, 1), (68, 2), (69, 3), (5, 4), (5, 5), (70, 6), (71, 7), (72, 8), (73, 9), (74, 10)], size := 11, bytes := 48, zero := [Value.int IntKind.u64 0, Value.int IntKind.u64 0, Value.int IntKind.u32 0, Value.int IntKind.u8 0, Value.int IntKind.u8 0, Value.int IntKind.u8 0, Value.int IntKind.u8 0, Value.nilFunc, Value.pointer none, Value.int IntKind.i32 0, Value.int IntKind.i32 0] },
  none,
  none]
def tt : TT := fun t => (tyTab[t]?).getD none
theorem tyTab_ok : ((List.range 78).map fun t => if ((tyTab[t]?).getD none).isSome then tyRow Try.prog t else none) = tyTab := by kernel_rfl
theorem tyOK : TyOK Try.prog tt := fun t r h => by
  have h' : (tyTab[t]?).getD none = some r := h
  have hlt : t < 78 := by
    rcases Nat.lt_or_ge t 78 with h1 | h1
    · exact h1
    · rw [List.getElem?_eq_none (by show _ ≤ t; exact h1)] at h'; cases h'
  have e := congrArg (fun l => l[t]?) tyTab_ok
  simp only [List.getElem?_map, List.getElem?_range hlt, Option.map_some] at e
  rw [h'] at e
  rw [← e] at h'
  simpa using h'
theorem tt_2 : tt 2 = some { kind := TyKind.int IntKind.i64, size := 1, bytes := 8, zero := [Value.int IntKind.i64 0] } := rfl
theorem tt_3 : tt 3 = some { kind := TyKind.int IntKind.i64, size := 1, bytes := 8, zero := [Value.int IntKind.i64 0] } := rfl
theorem tt_4 : tt 4 = some { kind := TyKind.bool, size := 1, bytes := 1, zero := [Value.bool false] } := rfl
theorem tt_5 : tt 5 = some { kind := TyKind.int IntKind.u8, size := 1, bytes := 1, zero := [Value.int IntKind.u8 0] } := rfl
theorem tt_7 : tt 7 = some { kind := TyKind.st [(2, 0), (3, 1), (4, 2), (6, 3)], size := 4, bytes := 24, zero := [Value.int IntKind.i64 0, Value.int IntKind.i64 0, Value.bool false, Value.int IntKind.u8 0] } := rfl
theorem tt_9 : tt 9 = some { kind := TyKind.str, size := 1, bytes := 16, zero := [Value.string ByteArray.empty] } := rfl
theorem tt_12 : tt 12 = some { kind := TyKind.int IntKind.u64, size := 1, bytes := 8, zero := [Value.int IntKind.u64 0] } := rfl
theorem tt_13 : tt 13 = some { kind := TyKind.st [(9, 0), (12, 1)], size := 2, bytes := 24, zero := [Value.string ByteArray.empty, Value.int IntKind.u64 0] } := rfl
theorem tt_18 : tt 18 = some { kind := TyKind.st [(17, 0)], size := 1, bytes := 8, zero := [Value.pointer none] } := rfl
theorem tt_20 : tt 20 = some { kind := TyKind.other, size := 1, bytes := 16, zero := [Value.nilIface] } := rfl
theorem tt_21 : tt 21 = some { kind := TyKind.int IntKind.i32, size := 1, bytes := 4, zero := [Value.int IntKind.i32 0] } := rfl
theorem tt_22 : tt 22 = some { kind := TyKind.sl 37, size := 1, bytes := 24, zero := [Value.slice none 0 0] } := rfl
theorem tt_24 : tt 24 = some { kind := TyKind.ptr 53, size := 1, bytes := 8, zero := [Value.pointer none] } := rfl
theorem tt_25 : tt 25 = some { kind := TyKind.int IntKind.i64, size := 1, bytes := 8, zero := [Value.int IntKind.i64 0] } := rfl
theorem tt_28 : tt 28 = some { kind := TyKind.sl 3, size := 1, bytes := 24, zero := [Value.slice none 0 0] } := rfl
theorem tt_29 : tt 29 = some { kind := TyKind.sl 4, size := 1, bytes := 24, zero := [Value.slice none 0 0] } := rfl
theorem tt_30 : tt 30 = some { kind := TyKind.st [(28, 0), (29, 1)], size := 2, bytes := 48, zero := [Value.slice none 0 0, Value.slice none 0 0] } := rfl
theorem tt_31 : tt 31 = some { kind := TyKind.st [(28, 0), (29, 1)], size := 2, bytes := 48, zero := [Value.slice none 0 0, Value.slice none 0 0] } := rfl
theorem tt_36 : tt 36 = some { kind := TyKind.st [(3, 0), (3, 1), (3, 2)], size := 3, bytes := 24, zero := [Value.int IntKind.i64 0, Value.int IntKind.i64 0, Value.int IntKind.i64 0] } := rfl
theorem tt_37 : tt 37 = some { kind := TyKind.st [(3, 0), (3, 1), (3, 2)], size := 3, bytes := 24, zero := [Value.int IntKind.i64 0, Value.int IntKind.i64 0, Value.int IntKind.i64 0] } := rfl
theorem tt_42 : tt 42 = some { kind := TyKind.other, size := 1, bytes := 8, zero := [Value.nilFunc] } := rfl
theorem tt_44 : tt 44 = some { kind := TyKind.other, size := 1, bytes := 8, zero := [Value.nilFunc] } := rfl
theorem tt_48 : tt 48 = some { kind := TyKind.arr 2 3, size := 2, bytes := 16, zero := [Value.int IntKind.i64 0, Value.int IntKind.i64 0] } := rfl
theorem tt_52 : tt 52 = some { kind := TyKind.st [(28, 0), (28, 1), (28, 2), (4, 3)], size := 4, bytes := 80, zero := [Value.slice none 0 0, Value.slice none 0 0, Value.slice none 0 0, Value.bool false] } := rfl
theorem tt_53 : tt 53 = some { kind := TyKind.st [(28, 0), (28, 1), (28, 2), (4, 3)], size := 4, bytes := 80, zero := [Value.slice none 0 0, Value.slice none 0 0, Value.slice none 0 0, Value.bool false] } := rfl
theorem tt_63 : tt 63 = some { kind := TyKind.st [(17, 0), (17, 1), (17, 2), (9, 3)], size := 4, bytes := 40, zero := [Value.pointer none, Value.pointer none, Value.pointer none, Value.string ByteArray.empty] } := rfl
theorem tt_66 : tt 66 = some { kind := TyKind.st [(65, 0)], size := 0, bytes := 0, zero := [] } := rfl
theorem tt_68 : tt 68 = some { kind := TyKind.int IntKind.u32, size := 1, bytes := 4, zero := [Value.int IntKind.u32 0] } := rfl
theorem tt_72 : tt 72 = some { kind := TyKind.ptr 5, size := 1, bytes := 8, zero := [Value.pointer none] } := rfl
theorem tt_75 : tt 75 = some { kind := TyKind.st [(12, 0), (12, 1), (68, 2), (69, 3), (5, 4), (5, 5), (70, 6), (71, 7), (72, 8), (73, 9), (74, 10)], size := 11, bytes := 48, zero := [Value.int IntKind.u64 0, Value.int IntKind.u64 0, Value.int IntKind.u32 0, Value.int IntKind.u8 0, Value.int IntKind.u8 0, Value.int IntKind.u8 0, Value.int IntKind.u8 0, Value.nilFunc, Value.pointer none, Value.int IntKind.i32 0, Value.int IntKind.i32 0] } := rfl
end Go.Proofs.Ytmbapmagcfepaaa
namespace Go.Proofs.Ytmbapmagcfepaaa
set_option linter.unusedVariables false
theorem getD_setI (l : List Int) (i j : Nat) (a : Int) : (l.set i a).getD j 0 = if i = j ∧ i < l.length then a else l.getD j 0 := by
  rw [List.getD_eq_getElem?_getD, List.getElem?_set, List.getD_eq_getElem?_getD]
  by_cases h : i = j
  · subst h
    by_cases h2 : i < l.length
    · simp [h2]
    · simp [h2]
  · simp [h]
theorem mem_getD {l : List Int} {v : Int} : v ∈ l ↔ ∃ i, i < l.length ∧ l.getD i 0 = v := by
  rw [List.mem_iff_getElem]
  constructor
  · rintro ⟨i, h, e⟩; exact ⟨i, h, by rw [List.getD_eq_getElem?_getD, List.getElem?_eq_getElem h]; exact e⟩
  · rintro ⟨i, h, e⟩; exact ⟨i, h, by rw [List.getD_eq_getElem?_getD, List.getElem?_eq_getElem h] at e; exact e⟩
def hbt (sc : List Int) (v w : Int) : Prop := sc.getD w.toNat 0 < sc.getD v.toNat 0 ∨ (sc.getD v.toNat 0 = sc.getD w.toNat 0 ∧ v < w)
instance (sc : List Int) (v w : Int) : Decidable (hbt sc v w) := by unfold hbt; infer_instance
theorem hbt_tot {sc : List Int} {v w : Int} (h : v ≠ w) (hn : ¬ hbt sc v w) : hbt sc w v := by unfold hbt at *; omega
theorem hbt_tr {sc : List Int} {a b c : Int} (h : hbt sc a b) (k : hbt sc b c) : hbt sc a c := by unfold hbt at *; omega
theorem hbt_irr {sc : List Int} {a : Int} (h : hbt sc a a) : False := by unfold hbt at *; omega
theorem hbt_as {sc : List Int} {a b : Int} (h : hbt sc a b) (k : hbt sc b a) : False := hbt_irr (hbt_tr h k)
def swR (R : List Int) (i k : Nat) : List Int := (R.set i (R.getD k 0)).set k (R.getD i 0)
def swP (pl R : List Int) (i k : Nat) : List Int := (pl.set (R.getD k 0).toNat i).set (R.getD i 0).toNat k
theorem swR_len (R : List Int) (i k : Nat) : (swR R i k).length = R.length := by unfold swR; simp
theorem swP_len (pl R : List Int) (i k : Nat) : (swP pl R i k).length = pl.length := by unfold swP; simp
theorem swR_at {R : List Int} {i k : Nat} (hi : i < R.length) (hk : k < R.length) (j : Nat) : (swR R i k).getD j 0 = if k = j then R.getD i 0 else if i = j then R.getD k 0 else R.getD j 0 := by
  unfold swR
  rw [getD_setI, getD_setI, List.length_set]
  simp only [hi, hk, and_true]
structure HpC (n : Nat) (R pl : List Int) : Prop where
  len : pl.length = n + 1
  row : ∀ i, i < R.length → 1 ≤ R.getD i 0 ∧ R.getD i 0 ≤ n ∧ pl.getD (R.getD i 0).toNat 0 = i
theorem HpC.inj {n : Nat} {R pl : List Int} (h : HpC n R pl) {i j : Nat} (hi : i < R.length) (hj : j < R.length) (e : R.getD i 0 = R.getD j 0) : i = j := by
  have h1 := (h.row i hi).2.2
  have h2 := (h.row j hj).2.2
  rw [e] at h1
  omega
structure Mv (n : Nat) (R pl R' pl' : List Int) : Prop where
  len : R'.length = R.length
  mem : ∀ v, v ∈ R' ↔ v ∈ R
  ok : HpC n R' pl'
  out : ∀ v, v ∉ R → pl'.getD v.toNat 0 = pl.getD v.toNat 0
theorem Mv.refl {n : Nat} {R pl : List Int} (h : HpC n R pl) : Mv n R pl R pl := ⟨rfl, fun _ => Iff.rfl, h, fun _ _ => rfl⟩
theorem Mv.trans {n : Nat} {R pl R1 pl1 R2 pl2 : List Int} (h : Mv n R pl R1 pl1) (k : Mv n R1 pl1 R2 pl2) : Mv n R pl R2 pl2 :=
  ⟨k.len.trans h.len, fun v => (k.mem v).trans (h.mem v), k.ok, fun v hv => (k.out v (fun hh => hv ((h.mem v).1 hh))).trans (h.out v hv)⟩
theorem swP_at {n : Nat} {R pl : List Int} (h : HpC n R pl) {i k : Nat} (hi : i < R.length) (hk : k < R.length) (v : Nat) : (swP pl R i k).getD v 0 = if (R.getD i 0).toNat = v then (k : Int) else if (R.getD k 0).toNat = v then (i : Int) else pl.getD v 0 := by
  have h1 := h.row i hi
  have h2 := h.row k hk
  have hl := h.len
  unfold swP
  rw [getD_setI, getD_setI, List.length_set]
  have e1 : (R.getD i 0).toNat < pl.length := by omega
  have e2 : (R.getD k 0).toNat < pl.length := by omega
  simp only [e1, e2, and_true]
theorem swap_mv {n : Nat} {R pl : List Int} (h : HpC n R pl) {i k : Nat} (hi : i < R.length) (hk : k < R.length) : Mv n R pl (swR R i k) (swP pl R i k) := by
  have hat := swR_at hi hk
  have h1 := h.row i hi
  have h2 := h.row k hk
  refine ⟨swR_len _ _ _, fun v => ?_, ⟨by rw [swP_len]; exact h.len, fun j hj => ?_⟩, fun v hv => ?_⟩
  · rw [mem_getD, mem_getD, swR_len]
    constructor
    · rintro ⟨j, hj, e⟩
      rw [hat] at e
      by_cases e1 : k = j
      · rw [if_pos e1] at e; exact ⟨i, hi, e⟩
      · rw [if_neg e1] at e
        by_cases e2 : i = j
        · rw [if_pos e2] at e; exact ⟨k, hk, e⟩
        · rw [if_neg e2] at e; exact ⟨j, hj, e⟩
    · rintro ⟨j, hj, e⟩
      by_cases e1 : j = i
      · exact ⟨k, hk, by rw [hat, if_pos rfl, ← e1]; exact e⟩
      · by_cases e2 : j = k
        · exact ⟨i, hi, by
            rw [hat]
            by_cases e3 : k = i
            · rw [if_pos e3, ← e3, ← e2]; exact e
            · rw [if_neg e3, if_pos rfl, ← e2]; exact e⟩
        · exact ⟨j, hj, by rw [hat, if_neg (Ne.symm e2), if_neg (Ne.symm e1)]; exact e⟩
  · rw [swR_len] at hj
    have h3 := h.row j hj
    rw [hat, swP_at h hi hk]
    by_cases e1 : k = j
    · rw [if_pos e1, if_pos rfl]; exact ⟨h1.1, h1.2.1, by rw [e1]⟩
    · rw [if_neg e1]
      by_cases e2 : i = j
      · rw [if_pos e2]
        have : ¬ (R.getD i 0).toNat = (R.getD k 0).toNat := fun hh => by
          have := h.inj hi hk (by omega); omega
        rw [if_neg this, if_pos rfl]; exact ⟨h2.1, h2.2.1, by rw [e2]⟩
      · rw [if_neg e2]
        have n1 : ¬ (R.getD i 0).toNat = (R.getD j 0).toNat := fun hh => e2 (h.inj hi hj (by omega))
        have n2 : ¬ (R.getD k 0).toNat = (R.getD j 0).toNat := fun hh => e1 (h.inj hk hj (by omega))
        rw [if_neg n1, if_neg n2]; exact h3
  · rw [swP_at h hi hk]
    have n1 : ¬ (R.getD i 0).toNat = v.toNat := fun hh => hv (mem_getD.2 ⟨i, hi, by omega⟩)
    have n2 : ¬ (R.getD k 0).toNat = v.toNat := fun hh => hv (mem_getD.2 ⟨k, hk, by omega⟩)
    rw [if_neg n1, if_neg n2]
def HpH (sc R : List Int) (k : Nat) : Prop := ∀ j, 1 ≤ j → j < R.length → k ≤ (j - 1) / 2 → hbt sc (R.getD ((j - 1) / 2) 0) (R.getD j 0)
def UpH (sc R : List Int) (i : Nat) : Prop := i < R.length ∧ (∀ j, 1 ≤ j → j < R.length → j ≠ i → hbt sc (R.getD ((j - 1) / 2) 0) (R.getD j 0)) ∧ (∀ j, 1 ≤ j → j < R.length → (j - 1) / 2 = i → 1 ≤ i → hbt sc (R.getD ((i - 1) / 2) 0) (R.getD j 0))
def DnH (sc R : List Int) (k i : Nat) : Prop := i < R.length ∧ k ≤ i ∧ (∀ j, 1 ≤ j → j < R.length → k ≤ (j - 1) / 2 → (j - 1) / 2 ≠ i → hbt sc (R.getD ((j - 1) / 2) 0) (R.getD j 0)) ∧ (∀ j, 1 ≤ j → j < R.length → (j - 1) / 2 = i → 1 ≤ i → k ≤ (i - 1) / 2 → hbt sc (R.getD ((i - 1) / 2) 0) (R.getD j 0))
theorem up_stop {n : Nat} {sc R pl : List Int} {i : Nat} (hc : HpC n R pl) (h : UpH sc R i) (hs : i = 0 ∨ ¬ hbt sc (R.getD i 0) (R.getD ((i - 1) / 2) 0)) : HpH sc R 0 := fun j hj hl _ => by
  by_cases e : j = i
  · subst e
    rcases hs with hs | hs
    · omega
    · exact hbt_tot (fun e => by have := hc.inj hl (by omega) e; omega) hs
  · exact h.2.1 j hj hl e
theorem up_go {sc R : List Int} {i : Nat} (h : UpH sc R i) (hi : 0 < i) (hb : hbt sc (R.getD i 0) (R.getD ((i - 1) / 2) 0)) : UpH sc (swR R i ((i - 1) / 2)) ((i - 1) / 2) := by
  obtain ⟨hl, h1, h2⟩ := h
  have hp : (i - 1) / 2 < R.length := by omega
  have hat := swR_at hl hp
  refine ⟨by rw [swR_len]; exact hp, fun j hj hjl hne => ?_, fun j hj hjl hpj hp1 => ?_⟩
  · rw [swR_len] at hjl
    rw [hat, hat, if_neg (Ne.symm hne)]
    by_cases e1 : i = j
    · rw [if_pos e1]
      subst e1
      rw [if_pos rfl]; exact hb
    · rw [if_neg e1]
      by_cases e2 : (i - 1) / 2 = (j - 1) / 2
      · rw [if_pos e2]
        have := h1 j hj hjl (Ne.symm e1)
        rw [← e2] at this
        exact hbt_tr hb this
      · rw [if_neg e2]
        by_cases e3 : i = (j - 1) / 2
        · rw [if_pos e3]; exact h2 j hj hjl e3.symm hi
        · rw [if_neg e3]; exact h1 j hj hjl (Ne.symm e1)
  · rw [swR_len] at hjl
    have hpp := h1 ((i - 1) / 2) hp1 hp (by omega)
    rw [hat, hat]
    rw [if_neg (by omega), if_neg (by omega)]
    by_cases e0 : (i - 1) / 2 = j
    · omega
    · rw [if_neg e0]
      by_cases e1 : i = j
      · rw [if_pos e1]; exact hpp
      · rw [if_neg e1]
        have := h1 j hj hjl (Ne.symm e1)
        rw [hpj] at this
        exact hbt_tr hpp this
theorem dn_stop {n : Nat} {sc R pl : List Int} {k i : Nat} (hc : HpC n R pl) (h : DnH sc R k i) (hs : ∀ j, 1 ≤ j → j < R.length → (j - 1) / 2 = i → ¬ hbt sc (R.getD j 0) (R.getD i 0)) : HpH sc R k := fun j hj hl hk => by
  by_cases e : (j - 1) / 2 = i
  · rw [e]; exact hbt_tot (fun e => by have := hc.inj hl h.1 e; omega) (hs j hj hl e)
  · exact h.2.2.1 j hj hl hk e
theorem dn_go {n : Nat} {sc R pl : List Int} {k i b : Nat} (hc : HpC n R pl) (h : DnH sc R k i) (hb1 : 1 ≤ b) (hbl : b < R.length) (hbi : (b - 1) / 2 = i) (hb : hbt sc (R.getD b 0) (R.getD i 0)) (hs : ∀ j, 1 ≤ j → j < R.length → (j - 1) / 2 = i → ¬ hbt sc (R.getD j 0) (R.getD b 0)) : DnH sc (swR R i b) k b := by
  obtain ⟨hl, hki, h1, h2⟩ := h
  have hat := swR_at hl hbl
  refine ⟨by rw [swR_len]; exact hbl, by omega, fun j hj hjl hk hne => ?_, fun j hj hjl hpj hp1 hk => ?_⟩
  · rw [swR_len] at hjl
    rw [hat, hat, if_neg (Ne.symm hne)]
    by_cases e1 : b = j
    · rw [if_pos e1]
      subst e1
      rw [if_pos hbi.symm]; exact hb
    · rw [if_neg e1]
      by_cases e2 : i = (j - 1) / 2
      · rw [if_pos e2]
        have e3 : ¬ i = j := by omega
        rw [if_neg e3]
        exact hbt_tot (fun e => by have := hc.inj hjl hbl e; omega) (hs j hj hjl e2.symm)
      · rw [if_neg e2]
        by_cases e3 : i = j
        · rw [if_pos e3]
          subst e3
          exact h2 b hb1 hbl hbi hj hk
        · rw [if_neg e3]; exact h1 j hj hjl hk (Ne.symm e2)
  · rw [swR_len] at hjl
    rw [hat, hat, hbi, if_neg (by omega), if_pos rfl, if_neg (by omega), if_neg (by omega)]
    have := h1 j hj hjl (by omega) (by omega)
    rw [hpj] at this
    exact this
theorem hp_dn {sc R : List Int} {k : Nat} (h : HpH sc R (k + 1)) (hk : k < R.length) : DnH sc R k k :=
  ⟨hk, Nat.le_refl _, fun j hj hl h1 h2 => h j hj hl (by omega), fun j hj hl h1 h2 h3 => by omega⟩
theorem hp_none (sc R : List Int) {k : Nat} (hk : R.length / 2 ≤ k) : HpH sc R k := fun j hj hl h => by omega
theorem hp_top {sc R : List Int} (h : HpH sc R 0) : ∀ (j : Nat), 1 ≤ j → j < R.length → hbt sc (R.getD 0 0) (R.getD j 0) := by
  intro j
  induction j using Nat.strongRecOn with
  | _ j ih =>
    intro h1 h2
    have := h j h1 h2 (Nat.zero_le _)
    by_cases e : (j - 1) / 2 = 0
    · rw [e] at this; exact this
    · exact hbt_tr (ih ((j - 1) / 2) (by omega) (by omega) (by omega)) this
end Go.Proofs.Ytmbapmagcfepaaa
