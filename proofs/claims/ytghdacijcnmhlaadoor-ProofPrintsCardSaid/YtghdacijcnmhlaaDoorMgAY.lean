import Derived.Test.YtghdacijcnmhlaaDoorMgAJ
import Derived.Test.YtghdacijcnmhlaaDoorMgAG
import Derived.DeepKeys
import Derived.Laws.StructEq
import Derived.WideLaws
import Derived.Shelf.Strings.Prefix
import Derived.Shelf.Strconv.AtoiAll
namespace Go.Proofs.YtghdacijcnmhlaaDoor
open Go.RowKit
set_option linter.unusedVariables false
set_option linter.unusedSimpArgs false
theorem rnL_lint (r : Nat → Nat) (xs : List Int) : rnL r (xs.map lint) = xs.map lint := by rw [rnL_map, List.map_map]; rfl
theorem idL_lint (p : Nat → Bool) (xs : List Int) : idL p (xs.map lint) = true := by rw [idL_all, List.all_map, List.all_eq_true]; exact fun _ _ => rfl
theorem rnL_iv {α : Type} (r : Nat → Nat) (g : α → IV) (xs : List α) : rnL r (xs.map fun x => .iv (g x)) = xs.map fun x => .iv (g x) := by rw [rnL_map, List.map_map]; rfl
theorem idL_iv {α : Type} (p : Nat → Bool) (g : α → IV) (xs : List α) : idL p (xs.map fun x => .iv (g x)) = true := by rw [idL_all, List.all_map, List.all_eq_true]; exact fun _ _ => rfl
theorem rnL_app (r : Nat → Nat) (xs ys : List AV) : rnL r (xs ++ ys) = rnL r xs ++ rnL r ys := by simp [rnL_map]
theorem idL_app (p : Nat → Bool) (xs ys : List AV) : idL p (xs ++ ys) = (idL p xs && idL p ys) := by simp [idL_all]
theorem lint_at {xs : List Int} {k : Nat} (h : k < xs.length) : (xs.map lint)[k]? = some (lt (.int .i64 (xs.getD k 0))) := by
  rw [List.getElem?_map, List.getD_eq_getElem?_getD, List.getElem?_eq_getElem h]; rfl
theorem lint_set (xs : List Int) (k : Nat) (v : Int) : (xs.map lint).set k (lt (.int .i64 v)) = (xs.set k v).map lint := by rw [List.map_set]; rfl
theorem lint_snoc (xs : List Int) (v : Int) : xs.map lint ++ [lt (.int .i64 v)] = (xs ++ [v]).map lint := by rw [List.map_append]; rfl
theorem take_mapL {α β : Type} (f : α → β) (xs : List α) : (xs.map f).take xs.length = xs.map f := by rw [List.take_of_length_le (by simp)]
theorem lint_one (xs : List Int) : (xs.map lint).all AV.one = true := by rw [List.all_map, List.all_eq_true]; exact fun _ _ => rfl
mutual
theorem ids_idB : ∀ {x : AV}, x.idB (fun _ => false) = true → Ids 0 x
  | .iv x, _ => .iv x
  | .agg xs, h => .agg xs (ids_idL h)
  | .tup xs, h => .tup xs (ids_idL h)
  | .osl o off len sz, h => by simp [AV.idB] at h
  | .optr o off, h => by simp [AV.idB] at h
  | .fn f first caps, h => by
    have h' : idL (fun _ => false) first = true ∧ idL (fun _ => false) caps = true := by simpa [AV.idB] using h
    exact .fn f first caps (ids_idL h'.1) (ids_idL h'.2)
theorem ids_idL : ∀ {xs : List AV}, idL (fun _ => false) xs = true → ∀ (i : Nat) (x : AV), xs[i]? = some x → Ids 0 x
  | [], h, i, x, e => by simp at e
  | y :: ys, h, 0, x, e => by
    unfold idL at h; rw [Bool.and_eq_true] at h
    simp at e; subst e; exact ids_idB h.1
  | y :: ys, h, i + 1, x, e => by
    unfold idL at h; rw [Bool.and_eq_true] at h
    exact ids_idL h.2 i x (by simpa using e)
end
theorem idsA {xs : List AV} (h : idL (fun _ => false) xs = true) : ∀ a ∈ xs, Ids 0 a := fun a ha => by
  obtain ⟨i, hi⟩ := List.mem_iff_getElem?.1 ha
  exact ids_idL h i a hi
def iFlat (ys : List Int) (n w : Nat) : IV := .sl (fun j => .lit (.int .i64 (ys.getD j 0))) n w
theorem lint_app2 (xs : List Int) (a b : Int) : xs.map lint ++ [lt (.int .i64 a), lt (.int .i64 b)] = (xs ++ [a, b]).map lint := by rw [List.map_append]; rfl
theorem lint_app3 (xs : List Int) (a b c : Int) : xs.map lint ++ [lt (.int .i64 a), lt (.int .i64 b), lt (.int .i64 c)] = (xs ++ [a, b, c]).map lint := by rw [List.map_append]; rfl
theorem lint_app4 (xs : List Int) (a b c d : Int) : xs.map lint ++ [lt (.int .i64 a), lt (.int .i64 b), lt (.int .i64 c), lt (.int .i64 d)] = (xs ++ [a, b, c, d]).map lint := by rw [List.map_append]; rfl
theorem lint_app5 (xs : List Int) (a b c d e : Int) : xs.map lint ++ [lt (.int .i64 a), lt (.int .i64 b), lt (.int .i64 c), lt (.int .i64 d), lt (.int .i64 e)] = (xs ++ [a, b, c, d, e]).map lint := by rw [List.map_append]; rfl
theorem take_lint {xs : List Int} {n : Nat} (h : xs.length ≤ n) : (xs.map lint).take n = xs.map lint := List.take_of_length_le (by simpa using h)
theorem range2 : List.range 2 = [0, 1] := rfl
theorem range3 : List.range 3 = [0, 1, 2] := rfl
theorem range4 : List.range 4 = [0, 1, 2, 3] := rfl
theorem range5 : List.range 5 = [0, 1, 2, 3, 4] := rfl
theorem range6 : List.range 6 = [0, 1, 2, 3, 4, 5] := rfl
theorem range7 : List.range 7 = [0, 1, 2, 3, 4, 5, 6] := rfl
theorem range8 : List.range 8 = [0, 1, 2, 3, 4, 5, 6, 7] := rfl
theorem range9 : List.range 9 = [0, 1, 2, 3, 4, 5, 6, 7, 8] := rfl
theorem range10 : List.range 10 = [0, 1, 2, 3, 4, 5, 6, 7, 8, 9] := rfl
theorem range11 : List.range 11 = [0, 1, 2, 3, 4, 5, 6, 7, 8, 9, 10] := rfl
theorem range12 : List.range 12 = [0, 1, 2, 3, 4, 5, 6, 7, 8, 9, 10, 11] := rfl
theorem range13 : List.range 13 = [0, 1, 2, 3, 4, 5, 6, 7, 8, 9, 10, 11, 12] := rfl
theorem range14 : List.range 14 = [0, 1, 2, 3, 4, 5, 6, 7, 8, 9, 10, 11, 12, 13] := rfl
theorem range15 : List.range 15 = [0, 1, 2, 3, 4, 5, 6, 7, 8, 9, 10, 11, 12, 13, 14] := rfl
theorem range16 : List.range 16 = [0, 1, 2, 3, 4, 5, 6, 7, 8, 9, 10, 11, 12, 13, 14, 15] := rfl
theorem range17 : List.range 17 = [0, 1, 2, 3, 4, 5, 6, 7, 8, 9, 10, 11, 12, 13, 14, 15, 16] := rfl
theorem range18 : List.range 18 = [0, 1, 2, 3, 4, 5, 6, 7, 8, 9, 10, 11, 12, 13, 14, 15, 16, 17] := rfl
theorem range19 : List.range 19 = [0, 1, 2, 3, 4, 5, 6, 7, 8, 9, 10, 11, 12, 13, 14, 15, 16, 17, 18] := rfl
theorem range20 : List.range 20 = [0, 1, 2, 3, 4, 5, 6, 7, 8, 9, 10, 11, 12, 13, 14, 15, 16, 17, 18, 19] := rfl
theorem range21 : List.range 21 = [0, 1, 2, 3, 4, 5, 6, 7, 8, 9, 10, 11, 12, 13, 14, 15, 16, 17, 18, 19, 20] := rfl
theorem range22 : List.range 22 = [0, 1, 2, 3, 4, 5, 6, 7, 8, 9, 10, 11, 12, 13, 14, 15, 16, 17, 18, 19, 20, 21] := rfl
theorem range23 : List.range 23 = [0, 1, 2, 3, 4, 5, 6, 7, 8, 9, 10, 11, 12, 13, 14, 15, 16, 17, 18, 19, 20, 21, 22] := rfl
theorem range24 : List.range 24 = [0, 1, 2, 3, 4, 5, 6, 7, 8, 9, 10, 11, 12, 13, 14, 15, 16, 17, 18, 19, 20, 21, 22, 23] := rfl
theorem range0 : List.range 0 = [] := rfl
theorem range1 : List.range 1 = [0] := rfl
def mInt (f : Int → Option Int) : MC := fun k => (f k).map fun x => .int .i64 x
def mSet (f : Int → Bool) : MC := fun k => if f k = true then some (.agg #[]) else none
def updF {α : Type} (f : Int → Option α) (k : Int) (v : α) : Int → Option α := fun j => if j = k then some v else f j
def delF {α : Type} (f : Int → Option α) (k : Int) : Int → Option α := fun j => if j = k then none else f j
def addF (f : Int → Bool) (k : Int) : Int → Bool := fun j => if j = k then true else f j
theorem mSet_nil : (fun _ => none : MC) = mSet fun _ => false := rfl
theorem mSet_upd (f : Int → Bool) (k : Int) : upd (mSet f) k (.agg #[]) = mSet (addF f k) := by
  funext j; unfold upd mSet addF
  by_cases h : j = k
  · rw [if_pos h, if_pos (by rw [if_pos h])]
  · rw [if_neg h, if_neg h]
theorem mSet_get (f : Int → Bool) (k : Int) : (mSet f k).getD (.agg #[]) = .agg #[] := by
  unfold mSet; split <;> rfl
theorem mSet_is (f : Int → Bool) (k : Int) : (mSet f k).isSome = f k := by
  unfold mSet; cases h : f k <;> simp
theorem unit_plain : (mapR (.agg #[])).isSome = true := by decide
theorem unit_zero (w : World) : (zeroValue 105).run Tryd.prog w = .ok (.agg #[]) w := by kernel_rfl
set_option linter.unusedVariables false
set_option linter.unusedSimpArgs false
attribute [go_sem] Bool.true_beq Bool.false_beq beq_true beq_false cond_true cond_false dsts lapp_cons lapp_nil strip_mk strip_gd gix_some wantedS alF AS.ev AS.put putL arun drun alD kdOf isApp freeOp roOp extH List.any_cons List.any_nil Bool.or_false Bool.false_or Bool.or_true Bool.true_or aop abuiltin abox acells aload astore afieldAddr aindexAddr shiftA alen abin aint aun aconv apick_b apick_l apick_r amake aslice abound aappend aappendS aappendZ anews abuildSlice abuild afill asets splice azero aplaces apart afield aindex aggCells anilS anilP aeq notNil aminmax ashift astr TyKind.agg BinOp.isShift AV.one List.set_cons_succ List.set_cons_zero List.getD_cons_succ List.getD_cons_zero List.getElem?_cons_succ List.getElem?_cons_zero List.getElem?_toArray Option.map_some Option.map_none Option.bind_some List.map_cons List.map_nil List.headD_cons List.tail_cons List.take_succ_cons List.drop_succ_cons List.drop_zero List.take_zero List.take_nil if_true if_false Bool.false_eq_true Bool.not_true Bool.not_false beq_self_eq_true reduceCtorEq bne_self_eq_false tt_2 tt_3 tt_4 tt_5 tt_7 tt_9 tt_12 tt_13 tt_18 tt_20 tt_21 tt_23 tt_24 tt_31 tt_41 tt_48 tt_51 tt_52 tt_53 tt_54 tt_55 tt_57 tt_58 tt_60 tt_62 tt_63 tt_69 tt_70 tt_71 tt_72 tt_75 tt_76 tt_77 tt_87 tt_93 tt_94 tt_97 tt_102 tt_104 tt_105 tt_114 tt_117 tt_119 tt_122 tt_126 tt_133 tt_135 tt_136 tt_140 tt_144 tt_145 tt_146 tt_150 tt_153 tt_160 wrap_in ite_t ite_f dec_t dec_f beq_t beq_f bne_t bne_f nat_succ Int.toNat_natCast updS deadS and_true true_and ge_iff_le Nat.mul_one Nat.zero_add Nat.add_zero Nat.sub_zero lt_one_i lt_one_b lt_one_n List.all_cons List.all_nil Bool.and_true Bool.and_self Bool.true_and List.length_map List.length_append List.length_set lint_at lint_set lint_snoc lint_app2 lint_app3 lint_app4 lint_app5 take_mapL take_lint lint_one Nat.reduceMul Nat.reduceMod range0 range6 range7 range8 range9 range10 range11 range12 range13 range14 range15 range16 range17 range18 range19 range20 range21 range22 range23 range24 range1 range2 range3 range4 range5 List.length_cons List.length_nil Nat.reduceAdd Nat.reduceSub List.replicate_succ List.replicate_zero List.cons_append List.nil_append AV.rn rnL AV.idB idL okF okH selH atH AObj.rn newNo named rnL_lint idL_lint rnL_iv idL_iv rnL_app idL_app List.idxOf_cons_self List.idxOf_cons List.idxOf_nil List.contains_cons List.contains_nil List.elem_cons List.elem_nil Nat.not_lt_zero Nat.reduceLT Nat.reduceBEq decide_true decide_false Nat.succ_eq_add_one Nat.le_refl
theorem AX_ift {P : Program} {m : Nat} {Q : Exit → XS → Prop} {fr : List AV} {H : AHeap} {M : MS} {c : Operand} {x y : Code} (h : AX P m x Q ⟨fr, H, M⟩) (hc : AS.ev ⟨fr, H⟩ c = lt (.bool true) := by (simp only [go_sem] <;> fail)) : AX P m (.cond c x y) Q ⟨fr, H, M⟩ := AX_if_t hc h
theorem AX_iff {P : Program} {m : Nat} {Q : Exit → XS → Prop} {fr : List AV} {H : AHeap} {M : MS} {c : Operand} {x y : Code} (h : AX P m y Q ⟨fr, H, M⟩) (hc : AS.ev ⟨fr, H⟩ c = lt (.bool false) := by (simp only [go_sem] <;> fail)) : AX P m (.cond c x y) Q ⟨fr, H, M⟩ := AX_if_f hc h
theorem XOP {P : Program} {m : Nat} {Q : Exit → XS → Prop} {fr : List AV} {H : AHeap} {M : MS} {o : Oper} {l : List Oper} {tt : TT} (hT : TyOK P tt) (h : match aop tt ⟨fr, H⟩ o with | some (x, H') => XRes P m Q (l, ⟨putL fr o.dst x, H', M⟩) | none => False) (hw : wantedS fr o = some true := by (first | (with_reducible rfl) | (simp (disch := omega) only [go_sem] <;> fail))) : XRes P m Q (o :: l, ⟨fr, H, M⟩) := XRes_op hT hw h
theorem XTL {P : Program} {m : Nat} {Q : Exit → XS → Prop} {fr : List AV} {H : AHeap} {M : MS} {l : List Oper} {d : Option Tmp} {f : FuncId} {args : Array Operand} {tys : Array TypeId} {ty : TypeId} {pos : String} {after : Array Edge} {g : Option (Nat × Bool)} {fr' : List AV} (hw : wantedS fr ⟨d, .call { callee := .value (.func f), args := args, argTypes := tys }, ty, pos, after, g⟩ = some true) {x : AV} (hc : PF P f (args.toList.map (AS.ev ⟨fr, H⟩)) fun r H' => r = x ∧ H' = []) (h : XRes P m Q (l, ⟨fr', H, M⟩)) (hargs : ∀ a ∈ args.toList.map (AS.ev ⟨fr, H⟩), Ids 0 a := by exact idsA (by rfl)) (hx : ∀ k, x.ren k = x := by exact fun _ => rfl) (hf : putL fr d x = fr' := by (simp only [putL, List.set_cons_succ, List.set_cons_zero] <;> rfl)) : XRes P m Q (⟨d, .call { callee := .value (.func f), args := args, argTypes := tys }, ty, pos, after, g⟩ :: l, ⟨fr, H, M⟩) := XRes_tell hw hc hargs hx (by rw [hf]; exact h)
theorem ATL {P : Program} {fr : List AV} {H0 : AHeap} {l : List Oper} {tt : TT} {K : List AV → AHeap → Prop} (hT : TyOK P tt) {f : FuncId} {args : Array Operand} {tys : Array TypeId} {d : Option Tmp} {ty : TypeId} {pos : String} {after : Array Edge} {g : Option (Nat × Bool)} {fr' : List AV} (hw : wantedS fr ⟨d, .call { callee := .value (.func f), args := args, argTypes := tys }, ty, pos, after, g⟩ = some true) {x : AV} (hc : PF P f (args.toList.map (AS.ev ⟨fr, H0⟩)) fun r H' => r = x ∧ H' = []) (h : ADF P H0 K (l, fr')) (hargs : ∀ a ∈ args.toList.map (AS.ev ⟨fr, H0⟩), Ids 0 a := by exact idsA (by rfl)) (hx : ∀ k, x.ren k = x := by exact fun _ => rfl) (hf : putL fr d x = fr' := by (simp only [putL, List.set_cons_succ, List.set_cons_zero] <;> rfl)) : ADF P H0 K (⟨d, .call { callee := .value (.func f), args := args, argTypes := tys }, ty, pos, after, g⟩ :: l, fr) := ADF_tells hT hw hc hargs hx (by rw [hf]; exact h)
theorem AOP {P : Program} {fr : List AV} {H0 : AHeap} {o : Oper} {l : List Oper} {tt : TT} {K : List AV → AHeap → Prop} (hT : TyOK P tt) (h : match aop tt ⟨fr, H0⟩ o with | some (x, _) => ADF P H0 K (l, putL fr o.dst x) | none => False) (hr : runF o.op = true := by with_unfolding_all rfl) (hw : wantedS fr o = some true := by (first | (with_reducible rfl) | (simp (disch := omega) only [go_sem] <;> fail))) : ADF P H0 K (o :: l, fr) := ADF_op hT hr hw h
theorem ASK {P : Program} {fr : List AV} {H0 : AHeap} {o : Oper} {l : List Oper} {K : List AV → AHeap → Prop} {fr' : List AV} (h : ADF P H0 K (l, fr')) (hw : wantedS fr o = some false := by (first | with_unfolding_all rfl | (simp (disch := omega) only [go_sem] <;> fail))) (hf : putL fr o.dst uD = fr' := by (simp only [putL, List.set_cons_succ, List.set_cons_zero] <;> rfl)) : ADF P H0 K (o :: l, fr) := ADF_skip (b := true) hw (by rw [hf]; exact h)
theorem XSK {P : Program} {m : Nat} {Q : Exit → XS → Prop} {fr : List AV} {H : AHeap} {M : MS} {o : Oper} {l : List Oper} {fr' : List AV} (h : XRes P m Q (l, ⟨fr', H, M⟩)) (hw : wantedS fr o = some false := by (first | with_unfolding_all rfl | (simp (disch := omega) only [go_sem] <;> fail))) (hf : putL fr o.dst uD = fr' := by (simp only [putL, List.set_cons_succ, List.set_cons_zero] <;> rfl)) : XRes P m Q (o :: l, ⟨fr, H, M⟩) := XRes_skip hw (by rw [hf]; exact h)
theorem AWH {P : Program} {m : Nat} {Q : Exit → XS → Prop} {σ : Type} {fr : List AV} {H : AHeap} {M : MS} {c : Code} (ds : List Nat) (f : σ → List (Nat × AV)) (hp : σ → AHeap) (mp : σ → MS) (I : σ → Prop) (mm : σ → Nat) (st0 : σ) (hI : I st0) (round : ∀ (st : σ) (d : Nat → Value) (fr1 : List AV), fr1 = updS (deadS fr (fun i => lt (d i)) ds) (f st) → I st → AX P m c (thenX (WhX m ds f hp mp I mm fr (mm st)) Q) ⟨fr1, hp st, mp st⟩) (h0 : ∀ d : Nat → AV, deadS fr d ds = updS (deadS fr d ds) (f st0) := by (intro d; first | (simp only [deadS, updS, List.set_cons_succ, List.set_cons_zero, lint, List.length_nil, List.length_cons] <;> fail) | (simp only [deadS, updS, List.set_cons_succ, List.set_cons_zero, lint, List.length_nil, List.length_cons] <;> rfl) | rfl)) (hh0 : H = hp st0 := by (first | (with_reducible rfl) | rfl)) (hm0 : M = mp st0 := by (first | (with_reducible rfl) | rfl)) : AX P m (.loop c) Q ⟨fr, H, M⟩ := AX_wh ds f hp mp I mm st0 h0 hh0 hm0 hI round
theorem WEND {σ : Type} {m : Nat} {ds : List Nat} {f : σ → List (Nat × AV)} {hp : σ → AHeap} {mp : σ → MS} {I : σ → Prop} {mm : σ → Nat} {fr0 : List AV} {n : Nat} {fr : List AV} {H : AHeap} {M : MS} (st' : σ) (hI : I st') (hm : mm st' < n) (hM : M = mp st' := by rfl) (hh : H = hp st' := by (first | rfl | (simp (disch := omega) only [go_sem, lint] <;> fail))) (h : ∀ d : Nat → AV, deadS fr d ds = updS (deadS fr0 d ds) (f st') := by (intro d; first | (simp only [deadS, updS, List.set_cons_succ, List.set_cons_zero, lint, List.length_nil, List.length_cons] <;> fail) | (simp only [deadS, updS, List.set_cons_succ, List.set_cons_zero, lint, List.length_nil, List.length_cons] <;> rfl) | rfl)) : WhX m ds f hp mp I mm fr0 n ⟨fr, H, M⟩ := whx_end st' hI hm hM hh h
structure Wk (p : Prop) : Prop where
  o : p

end Go.Proofs.YtghdacijcnmhlaaDoor
namespace Go.Proofs.YtghdacijcnmhlaaDoor
open Go.RowKit
set_option linter.unusedVariables false
set_option linter.unusedSimpArgs false
def isI64 (P : Program) (t : TypeId) : Bool := (match P.underlying t with | some (.int .i64) => true | _ => false) && P.plainKey t
def intFields (P : Program) : Nat → List Field → Bool
  | _, [] => true
  | k, f :: fs => f.name != "_" && f.offset == k && isI64 P f.type && intFields P (k + 1) fs
def eqOK (P : Program) (t n : Nat) : Bool := !P.eqGuardType P.depth t && match P.underlying t with
  | some (.struct fs) => intFields P 0 fs.toList && fs.toList.length == n && !P.stoodInHeld t
  | some (.array k e) => isI64 P e && P.cellsOf e == 1 && k == n && (P.info? e).isSome
  | _ => false
section
variable {P : Program}
def litI (a : Int) : AV := lt (.int .i64 a)
def eqRes (op : BinOp) (b : Bool) : Bool := match op with | .eql => b | _ => !b
variable {m : Nat} {Q : Exit → XS → Prop} {fr : List AV} {H : AHeap} {M : MS} {l : List Oper} {d : Option Tmp} {t2 ty : TypeId} {pos : String} {after : Array Edge} {g : Option (Nat × Bool)}
end
end Go.Proofs.YtghdacijcnmhlaaDoor
namespace Go.Proofs.YtghdacijcnmhlaaDoor
open Go.RowKit
set_option linter.unusedVariables false
set_option linter.unusedSimpArgs false
section
variable {P : Program}
def isNilV : Value → Option Bool
  | .nilIface => some true
  | .iface _ _ => some false
  | _ => none
theorem nil_run {t : TypeId} (h : P.underlying t = some (.interface (P.methodsAt t))) {u : Value} {b : Bool} (hu : isNilV u = some b) {op : BinOp} (hop : op = .eql ∨ op = .neq) {x : Operand} {d : Option Tmp} {t2 ty : TypeId} {pos : String} {after : Array Edge} {g : Option (Nat × Bool)} {ρ : Operand → Value} (hx : ρ x = u) (hy : ρ (.const .nilIface) = .nilIface) (w : World) :
    (execOp ρ ⟨d, .binOp op t x (.const .nilIface) t2, ty, pos, after, g⟩).run P w = .ok (.value (.bool (eqRes op b))) w := by
  unfold isNilV at hu
  split at hu <;> simp only [Option.some.injEq, reduceCtorEq] at hu <;> subst hu
  · rcases hop with rfl | rfl
    · simp [execOp, hx, hy, eqGuard, binOp, run_equal_nil_nil w t h, Result.andThen, eqRes]
    · simp [execOp, hx, hy, eqGuard, binOp, run_equal_nil_nil w t h, Result.andThen, eqRes]
  · rename_i tt v
    rcases hop with rfl | rfl
    · simp [execOp, hx, hy, eqGuard, binOp, run_equal_held_nil w t tt v h, Result.andThen, eqRes]
    · simp [execOp, hx, hy, eqGuard, binOp, run_equal_held_nil w t tt v h, Result.andThen, eqRes]
variable {m : Nat} {Q : Exit → XS → Prop} {fr : List AV} {H : AHeap} {M : MS} {l : List Oper} {d : Option Tmp} {t2 ty : TypeId} {pos : String} {after : Array Edge} {g : Option (Nat × Bool)}
theorem XRes_nilI {t : TypeId} {op : BinOp} {x : Operand} {u : Value} {b : Bool} (hw : wantedS fr ⟨d, .binOp op t x (.const .nilIface) t2, ty, pos, after, g⟩ = some true) (hop : op = .eql ∨ op = .neq) (hx : AS.ev ⟨fr, H⟩ x = lt u) (hu : isNilV u = some b) (h : P.underlying t = some (.interface (P.methodsAt t)))
    (k : XRes P m Q (l, ⟨putL fr d (lt (.bool (eqRes op b))), H, M⟩)) : XRes P m Q (⟨d, .binOp op t x (.const .nilIface) t2, ty, pos, after, g⟩ :: l, ⟨fr, H, M⟩) :=
  XRes_gives hw (fun G a w hr => ⟨G, _, w, .inl (nil_run h hu hop (by have := hr.ev x; rw [hx] at this; exact this.lit_inv) (by have := hr.ev (.const .nilIface); exact RA.lit_inv this) w), Gh.le.refl _ _, Nat.le_refl _, hr.inv, .iv _ _ (.lit _)⟩) k
end
end Go.Proofs.YtghdacijcnmhlaaDoor
namespace Go.Proofs.YtghdacijcnmhlaaDoor
open Go.RowKit Go.Shelf Go.Lib Go.Sort
set_option linter.unusedVariables false
set_option linter.unusedSimpArgs false
def trimL_ren : Go.Shelf.Ren := ⟨fun | 101 => 74 | 208 => 79 | 206 => 69 | n => n, fun | 9 => 9 | 4 => 4 | 3 => 3 | n => n, fun | n => n⟩
theorem trimL : Go.Proofs.Lays.n101 Tryd.prog trimL_ren := {
  mixed := by kernel_rfl
  f101 := Tryd.func74.trans (congrArg some (by kernel_rfl))
  f206 := Tryd.func69.trans (congrArg some (by kernel_rfl))
  f208 := Tryd.func79.trans (congrArg some (by kernel_rfl))
  t3 := Tryd.underlying3
  a3 := Tryd.isAgg3
  z3 := Tryd.sizeOf3
  v3 := Tryd.zeroValue3
  t4 := Tryd.underlying4
  a4 := Tryd.isAgg4
  z4 := Tryd.sizeOf4
  v4 := Tryd.zeroValue4
  t9 := Tryd.underlying9
  a9 := Tryd.isAgg9
  z9 := Tryd.sizeOf9
  v9 := Tryd.zeroValue9 }
def atoiL_ren : Go.Shelf.Ren := ⟨fun | 172 => 71 | 244 => 75 | 245 => 76 | 247 => 80 | 279 => 81 | 280 => 82 | 281 => 83 | 282 => 84 | 287 => 89 | 316 => 90 | 171 => 65 | 205 => 91 | 321 => 97 | 322 => 98 | 243 => 73 | 246 => 78 | 283 => 85 | 284 => 86 | 285 => 87 | 286 => 88 | 129 => 93 | 317 => 92 | 318 => 94 | 319 => 95 | 320 => 96 | 337 => 99 | 338 => 100 | n => n, fun | 9 => 9 | 3 => 3 | 75 => 77 | 76 => 78 | 4 => 4 | 5 => 5 | 167 => 119 | 37 => 70 | 0 => 0 | 85 => 120 | 2 => 2 | 168 => 122 | 53 => 126 | 175 => 131 | 46 => 133 | 210 => 136 | 127 => 102 | 145 => 146 | 143 => 144 | 21 => 21 | 171 => 125 | 173 => 129 | 212 => 139 | 51 => 140 | 20 => 20 | 213 => 141 | 232 => 148 | 233 => 149 | 80 => 74 | n => n, fun | 15 => 1 | 16 => 2 | 17 => 3 | 18 => 4 | 19 => 5 | n => n⟩
theorem atoiL : Go.Proofs.LaysC.n172 Tryd.prog atoiL_ren := {
  mixed := by kernel_rfl
  f129 := Tryd.func93.trans (congrArg some (by kernel_rfl))
  f171 := Tryd.func65.trans (congrArg some (by kernel_rfl))
  f172 := Tryd.func71.trans (congrArg some (by kernel_rfl))
  f205 := Tryd.func91.trans (congrArg some (by kernel_rfl))
  f243 := Tryd.func73.trans (congrArg some (by kernel_rfl))
  f244 := Tryd.func75.trans (congrArg some (by kernel_rfl))
  f245 := Tryd.func76.trans (congrArg some (by kernel_rfl))
  f246 := Tryd.func78.trans (congrArg some (by kernel_rfl))
  f247 := Tryd.func80.trans (congrArg some (by kernel_rfl))
  f279 := Tryd.func81.trans (congrArg some (by kernel_rfl))
  f280 := Tryd.func82.trans (congrArg some (by kernel_rfl))
  f281 := Tryd.func83.trans (congrArg some (by kernel_rfl))
  f282 := Tryd.func84.trans (congrArg some (by kernel_rfl))
  f283 := Tryd.func85.trans (congrArg some (by kernel_rfl))
  f284 := Tryd.func86.trans (congrArg some (by kernel_rfl))
  f285 := Tryd.func87.trans (congrArg some (by kernel_rfl))
  f286 := Tryd.func88.trans (congrArg some (by kernel_rfl))
  f287 := Tryd.func89.trans (congrArg some (by kernel_rfl))
  f316 := Tryd.func90.trans (congrArg some (by kernel_rfl))
  f317 := Tryd.func92.trans (congrArg some (by kernel_rfl))
  f318 := Tryd.func94.trans (congrArg some (by kernel_rfl))
  f319 := Tryd.func95.trans (congrArg some (by kernel_rfl))
  f320 := Tryd.func96.trans (congrArg some (by kernel_rfl))
  f321 := Tryd.func97.trans (congrArg some (by kernel_rfl))
  f322 := Tryd.func98.trans (congrArg some (by kernel_rfl))
  f337 := Tryd.func99.trans (congrArg some (by kernel_rfl))
  f338 := Tryd.func100.trans (congrArg some (by kernel_rfl))
  t0 := Tryd.underlying0
  a0 := Tryd.isAgg0
  z0 := Tryd.sizeOf0
  v0 := Tryd.zeroValue0
  t2 := Tryd.underlying2
  a2 := Tryd.isAgg2
  z2 := Tryd.sizeOf2
  v2 := Tryd.zeroValue2
  t3 := Tryd.underlying3
  a3 := Tryd.isAgg3
  z3 := Tryd.sizeOf3
  v3 := Tryd.zeroValue3
  t4 := Tryd.underlying4
  a4 := Tryd.isAgg4
  z4 := Tryd.sizeOf4
  v4 := Tryd.zeroValue4
  t5 := Tryd.underlying5
  a5 := Tryd.isAgg5
  z5 := Tryd.sizeOf5
  v5 := Tryd.zeroValue5
  t9 := Tryd.underlying9
  a9 := Tryd.isAgg9
  z9 := Tryd.sizeOf9
  v9 := Tryd.zeroValue9
  t20 := Tryd.underlying20
  a20 := Tryd.isAgg20
  z20 := Tryd.sizeOf20
  v20 := Tryd.zeroValue20
  t21 := Tryd.underlying21
  a21 := Tryd.isAgg21
  z21 := Tryd.sizeOf21
  v21 := Tryd.zeroValue21
  t37 := Tryd.underlying70
  a37 := Tryd.isAgg70
  z37 := Tryd.sizeOf70
  v37 := Tryd.zeroValue70
  t46 := Tryd.underlying133
  a46 := Tryd.isAgg133
  z46 := Tryd.sizeOf133
  v46 := Tryd.zeroValue133
  t51 := Tryd.underlying140
  a51 := Tryd.isAgg140
  z51 := Tryd.sizeOf140
  v51 := Tryd.zeroValue140
  t53 := Tryd.underlying126
  a53 := Tryd.isAgg126
  z53 := Tryd.sizeOf126
  v53 := Tryd.zeroValue126
  t75 := Tryd.underlying77
  a75 := Tryd.isAgg77
  z75 := Tryd.sizeOf77
  v75 := Tryd.zeroValue77
  t76 := Tryd.underlying78
  a76 := Tryd.isAgg78
  z76 := Tryd.sizeOf78
  v76 := Tryd.zeroValue78
  t85 := Tryd.underlying120
  a85 := Tryd.isAgg120
  z85 := Tryd.sizeOf120
  v85 := Tryd.zeroValue120
  t127 := Tryd.underlying102
  a127 := Tryd.isAgg102
  z127 := Tryd.sizeOf102
  v127 := Tryd.zeroValue102
  t143 := Tryd.underlying144
  a143 := Tryd.isAgg144
  z143 := Tryd.sizeOf144
  v143 := Tryd.zeroValue144
  t145 := Tryd.underlying146
  a145 := Tryd.isAgg146
  z145 := Tryd.sizeOf146
  v145 := Tryd.zeroValue146
  t167 := Tryd.underlying119
  a167 := Tryd.isAgg119
  z167 := Tryd.sizeOf119
  v167 := Tryd.zeroValue119
  t168 := Tryd.underlying122
  a168 := Tryd.isAgg122
  z168 := Tryd.sizeOf122
  v168 := Tryd.zeroValue122
  t171 := Tryd.underlying125
  a171 := Tryd.isAgg125
  z171 := Tryd.sizeOf125
  v171 := Tryd.zeroValue125
  t173 := Tryd.underlying129
  a173 := Tryd.isAgg129
  z173 := Tryd.sizeOf129
  v173 := Tryd.zeroValue129
  t175 := Tryd.underlying131
  a175 := Tryd.isAgg131
  z175 := Tryd.sizeOf131
  v175 := Tryd.zeroValue131
  t210 := Tryd.underlying136
  a210 := Tryd.isAgg136
  z210 := Tryd.sizeOf136
  v210 := Tryd.zeroValue136
  t212 := Tryd.underlying139
  a212 := Tryd.isAgg139
  z212 := Tryd.sizeOf139
  v212 := Tryd.zeroValue139
  t213 := Tryd.underlying141
  a213 := Tryd.isAgg141
  z213 := Tryd.sizeOf141
  t232 := Tryd.underlying148
  a232 := Tryd.isAgg148
  z232 := Tryd.sizeOf148
  v232 := Tryd.zeroValue148
  t233 := Tryd.underlying149
  a233 := Tryd.isAgg149
  z233 := Tryd.sizeOf149
  v233 := Tryd.zeroValue149
  g15 := by kernel_rfl
  g16 := by kernel_rfl
  g17 := by kernel_rfl
  g18 := by kernel_rfl
  g19 := by kernel_rfl
  t80 := Tryd.underlying74
  a80 := Tryd.isAgg74
  z80 := Tryd.sizeOf74
  v80 := Tryd.zeroValue74
  i0 := by kernel_rfl
  i2 := by kernel_rfl
  i3 := by kernel_rfl
  i4 := by kernel_rfl
  i5 := by kernel_rfl
  i9 := by kernel_rfl
  i20 := by kernel_rfl
  i21 := by kernel_rfl
  i37 := by kernel_rfl
  i46 := by kernel_rfl
  i51 := by kernel_rfl
  i53 := by kernel_rfl
  i75 := by kernel_rfl
  i76 := by kernel_rfl
  i80 := by kernel_rfl
  i85 := by kernel_rfl
  i127 := by kernel_rfl
  i143 := by kernel_rfl
  i145 := by kernel_rfl
  i167 := by kernel_rfl
  i168 := by kernel_rfl
  i171 := by kernel_rfl
  i173 := by kernel_rfl
  i175 := by kernel_rfl
  i210 := by kernel_rfl
  i212 := by kernel_rfl
  i232 := by kernel_rfl
  i233 := by kernel_rfl
  m15 := by kernel_rfl
  m16 := by kernel_rfl
  m17 := by kernel_rfl
  m18 := by kernel_rfl
  m19 := by kernel_rfl
  c0 := by kernel_rfl
  c2 := by kernel_rfl
  c3 := by kernel_rfl
  c4 := by kernel_rfl
  c5 := by kernel_rfl
  c9 := by kernel_rfl
  c20 := by kernel_rfl
  c21 := by kernel_rfl
  c37 := by kernel_rfl
  c46 := by kernel_rfl
  c51 := by kernel_rfl
  c53 := by kernel_rfl
  c75 := by kernel_rfl
  c76 := by kernel_rfl
  c80 := by kernel_rfl
  c85 := by kernel_rfl
  c127 := by kernel_rfl
  c143 := by kernel_rfl
  c145 := by kernel_rfl
  c167 := by kernel_rfl
  c168 := by kernel_rfl
  c171 := by kernel_rfl
  c173 := by kernel_rfl
  c175 := by kernel_rfl
  c210 := by kernel_rfl
  c212 := by kernel_rfl
  c213 := by kernel_rfl
  c232 := by kernel_rfl
  c233 := by kernel_rfl }
def ba (l : List UInt8) : ByteArray := ⟨l.toArray⟩
theorem ba_size (l : List UInt8) : (ba l).size = l.length := by show l.toArray.size = _; simp
theorem ba_list (l : List UInt8) : (ba l).data.toList = l := rfl
theorem byteAt_ba (l : List UInt8) (i : Nat) : byteAt (ba l) i = l.getD i 0 := rfl
theorem ba_toList (l : List UInt8) : (ba l).toList = l := by
  rw [Lib.toList_data]; rfl
set_option maxRecDepth 100000 in
set_option maxHeartbeats 2000000 in
theorem pf_Digits (i : Int) (h0 : -9223372036854775808 ≤ i) (h1 : i ≤ 9223372036854775807) : PF Tryd.prog 54 [lt (.int .i64 i)] fun r H' => r = lt (.string (ba (itoa i))) ∧ H' = [] := by
  refine SF.forgetAll ?_
  have hC := pf_ItoaG i h0 h1
  (refine SF_of_bodyX (aload tt) (aload_ok tyOK) Tryd.func54 rfl (by kernel_rfl) ?_; simp only [Tryd.ntmps54, List.length_cons, List.length_nil, Nat.reduceAdd, Nat.reduceSub, List.replicate_succ, List.replicate_zero, List.cons_append, List.nil_append])
  (repeat (first | (first | (with_reducible first | refine AX_block ?_ | refine AX_skip ?_ | refine AX_exit ?_ | refine AX_ret ?_ | refine AX_ift ?_ | refine AX_iff ?_ | refine AX_seq_k (fun K hK => ?_) | refine ContX.use (by assumption) ?_) | simp only [thenX, inBlockX, if_true, if_false, reduceCtorEq]) | (first | ((with_reducible refine XOP tyOK ?_); simp (disch := omega) only [go_sem ]; (with_reducible refine XRes_id ?_)) | (with_reducible refine XSK ?_)) | ((with_reducible refine XRes_nil ?_); refine hK _ ?_; clear hK K) | ((with_reducible refine AX_reg0 fun K hK => ?_); simp only [go_sem]) | (first | (first | refine XTL (by rfl) hC ?_))))
  (simp only [bodyX]; refine ⟨_, by simp only [aresults, aresult, XS.as, Tryd.results54, aload, go_sem, Option.bind_some]; rfl, ?_⟩)
  exact ⟨.iv _, rfl, trivial⟩
theorem pf_Trim (l p : List UInt8) : PF Tryd.prog 74 [lt (.string (ba l)), lt (.string (ba p))] fun r H' => r = lt (.string (ba (trimPrefix l p))) ∧ H' = [] :=
  PF_of_walk ⟨_, Tryd.func74, by kernel_rfl, rfl⟩ fun G w vs hi hr => by
    obtain ⟨v1, us, rfl, r1, hr⟩ := hr.uncons
    obtain ⟨v2, us, rfl, r2, hr⟩ := hr.uncons
    rw [hr.unnil, r1.lit_inv, r2.lit_inv]
    have h := Any.strings_TrimPrefix trimL (ba l) (ba p) w
    refine (show Calls Tryd.prog 74 #[.string (ba l), .string (ba p)] w _ from h).mono ?_
    rintro e w' ⟨rfl, rfl⟩
    exact ⟨rfl, Below.refl _ _⟩
end Go.Proofs.YtghdacijcnmhlaaDoor
