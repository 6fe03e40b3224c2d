import Derived.Test.YtcjnikkmjhagmaaGreatDoorMgAM
import Derived.Test.YtcjnikkmjhagmaaGreatDoorMgAB
import Derived.Test.YtcjnikkmjhagmaaGreatDoorMgAI
namespace Go.Proofs.YtcjnikkmjhagmaaGreatDoor
open Go.RowKit
set_option linter.unusedVariables false
set_option linter.unusedSimpArgs false
theorem rnL_lint (r : Nat → Nat) (xs : List Int) : rnL r (xs.map lint) = xs.map lint := by rw [rnL_map, List.map_map]; rfl
theorem idL_lint (p : Nat → Bool) (xs : List Int) : idL p (xs.map lint) = true := by rw [idL_all, List.all_map, List.all_eq_true]; exact fun _ _ => rfl
theorem rnL_iv {α : Type} (r : Nat → Nat) (g : α → IV) (xs : List α) : rnL r (xs.map fun x => .iv (g x)) = xs.map fun x => .iv (g x) := by rw [rnL_map, List.map_map]; rfl
theorem idL_iv {α : Type} (p : Nat → Bool) (g : α → IV) (xs : List α) : idL p (xs.map fun x => .iv (g x)) = true := by rw [idL_all, List.all_map, List.all_eq_true]; exact fun _ _ => rfl
theorem rnL_app (r : Nat → Nat) (xs ys : List AV) : rnL r (xs ++ ys) = rnL r xs ++ rnL r ys := by simp [rnL_map]
theorem idL_app (p : Nat → Bool) (xs ys : List AV) : idL p (xs ++ ys) = (idL p xs && idL p ys) := by simp [idL_all]
theorem lint_at {xs : List Int} {k : Nat} (h : k < xs.length) : (xs.map lint)[k]? = some (lt (.int .i64 (xs.getD k 0))) := by
  rw [List.getElem?_map, List.getD_eq_getElem?_getD, List.getElem?_eq_getElem h]; rfl
theorem lint_set (xs : List Int) (k : Nat) (v : Int) : (xs.map lint).set k (lt (.int .i64 v)) = (xs.set k v).map lint := by rw [List.map_set]; rfl
theorem lint_snoc (xs : List Int) (v : Int) : xs.map lint ++ [lt (.int .i64 v)] = (xs ++ [v]).map lint := by rw [List.map_append]; rfl
theorem take_mapL {α β : Type} (f : α → β) (xs : List α) : (xs.map f).take xs.length = xs.map f := by rw [List.take_of_length_le (by simp)]
theorem lint_one (xs : List Int) : (xs.map lint).all AV.one = true := by rw [List.all_map, List.all_eq_true]; exact fun _ _ => rfl
theorem snap_ints {H : AHeap} {o : Nat} {t : TypeId} {xs : List Int} {n : Nat} (h : H[o]? = some (some ⟨t, xs.map lint⟩)) (hn : n = xs.length) : Snap H (.osl o 0 n 1) (.iv (iInts xs)) := by
  subst hn
  exact .iv _ _ (SnapC.lits (fun j => .int .i64 (xs.getD j 0)) h fun j hj => by rw [Nat.zero_add]; exact lint_at hj)
mutual
theorem ids_idB : ∀ {x : AV}, x.idB (fun _ => false) = true → Ids 0 x
  | .iv x, _ => .iv x
  | .agg xs, h => .agg xs (ids_idL h)
  | .tup xs, h => .tup xs (ids_idL h)
  | .osl o off len sz, h => by simp [AV.idB] at h
  | .optr o off, h => by simp [AV.idB] at h
  | .fn f first caps, h => by
    have h' : idL (fun _ => false) first = true ∧ idL (fun _ => false) caps = true := by simpa [AV.idB] using h
    exact .fn f first caps (ids_idL h'.1) (ids_idL h'.2)
theorem ids_idL : ∀ {xs : List AV}, idL (fun _ => false) xs = true → ∀ (i : Nat) (x : AV), xs[i]? = some x → Ids 0 x
  | [], h, i, x, e => by simp at e
  | y :: ys, h, 0, x, e => by
    unfold idL at h; rw [Bool.and_eq_true] at h
    simp at e; subst e; exact ids_idB h.1
  | y :: ys, h, i + 1, x, e => by
    unfold idL at h; rw [Bool.and_eq_true] at h
    exact ids_idL h.2 i x (by simpa using e)
end
theorem idsA {xs : List AV} (h : idL (fun _ => false) xs = true) : ∀ a ∈ xs, Ids 0 a := fun a ha => by
  obtain ⟨i, hi⟩ := List.mem_iff_getElem?.1 ha
  exact ids_idL h i a hi
def iFlat (ys : List Int) (n w : Nat) : IV := .sl (fun j => .lit (.int .i64 (ys.getD j 0))) n w
theorem snap_flat {H : AHeap} {o n w : Nat} {t : TypeId} {ys : List Int} (h : H[o]? = some (some ⟨t, ys.map lint⟩)) (hw : w ≠ 0) (hl : ys.length = n * w) : Snap H (.osl o 0 n w) (.iv (iFlat ys n w)) :=
  .iv _ _ (.osl o 0 n w _ _ (fun j => lt (.int .i64 (ys.getD j 0))) hw h (fun j hj => by rw [Nat.zero_add]; exact lint_at (by omega)) fun j _ => .iv _)
theorem lint_app2 (xs : List Int) (a b : Int) : xs.map lint ++ [lt (.int .i64 a), lt (.int .i64 b)] = (xs ++ [a, b]).map lint := by rw [List.map_append]; rfl
theorem lint_app3 (xs : List Int) (a b c : Int) : xs.map lint ++ [lt (.int .i64 a), lt (.int .i64 b), lt (.int .i64 c)] = (xs ++ [a, b, c]).map lint := by rw [List.map_append]; rfl
theorem lint_app4 (xs : List Int) (a b c d : Int) : xs.map lint ++ [lt (.int .i64 a), lt (.int .i64 b), lt (.int .i64 c), lt (.int .i64 d)] = (xs ++ [a, b, c, d]).map lint := by rw [List.map_append]; rfl
theorem lint_app5 (xs : List Int) (a b c d e : Int) : xs.map lint ++ [lt (.int .i64 a), lt (.int .i64 b), lt (.int .i64 c), lt (.int .i64 d), lt (.int .i64 e)] = (xs ++ [a, b, c, d, e]).map lint := by rw [List.map_append]; rfl
theorem take_lint {xs : List Int} {n : Nat} (h : xs.length ≤ n) : (xs.map lint).take n = xs.map lint := List.take_of_length_le (by simpa using h)
theorem flat_len {α : Type} {g : α → List Int} {w : Nat} (hg : ∀ x, (g x).length = w) (xs : List α) : (xs.flatMap g).length = xs.length * w := by
  induction xs with
  | nil => simp
  | cons x xs ih => rw [List.flatMap_cons, List.length_append, hg, ih, List.length_cons, Nat.succ_mul]; omega
theorem flat_getD {α : Type} {g : α → List Int} {w : Nat} (hg : ∀ x, (g x).length = w) {j : Nat} (hj : j < w) : ∀ (xs : List α) (i : Nat), (xs.flatMap g).getD (i * w + j) 0 = ((xs[i]?).map fun x => (g x).getD j 0).getD 0
  | [], i => by simp
  | x :: xs, 0 => by
    rw [List.flatMap_cons, List.getD_eq_getElem?_getD, List.getElem?_append_left (by rw [hg]; omega)]
    simp [List.getD_eq_getElem?_getD]
  | x :: xs, i + 1 => by
    have ih := flat_getD hg hj xs i
    rw [List.flatMap_cons, List.getD_eq_getElem?_getD, List.getElem?_append_right (by rw [hg, Nat.succ_mul]; omega), hg, show (i + 1) * w + j - w = i * w + j by rw [Nat.succ_mul]; omega, ← List.getD_eq_getElem?_getD, ih]
    simp
theorem flat_at {α : Type} {g : α → List Int} {w : Nat} (hg : ∀ x, (g x).length = w) (z : α) {j : Nat} (hj : j < w) (hz : (g z).getD j 0 = 0) (xs : List α) (i : Nat) : (xs.flatMap g).getD (i * w + j) 0 = (g (xs.getD i z)).getD j 0 := by
  rw [flat_getD hg hj]
  have e : xs.getD i z = (xs[i]?).getD z := List.getD_eq_getElem?_getD
  rw [e]
  cases xs[i]? with
  | some x => rfl
  | none => exact hz.symm
theorem range2 : List.range 2 = [0, 1] := rfl
theorem range3 : List.range 3 = [0, 1, 2] := rfl
theorem range4 : List.range 4 = [0, 1, 2, 3] := rfl
theorem range5 : List.range 5 = [0, 1, 2, 3, 4] := rfl
theorem range6 : List.range 6 = [0, 1, 2, 3, 4, 5] := rfl
theorem range7 : List.range 7 = [0, 1, 2, 3, 4, 5, 6] := rfl
theorem range8 : List.range 8 = [0, 1, 2, 3, 4, 5, 6, 7] := rfl
theorem range9 : List.range 9 = [0, 1, 2, 3, 4, 5, 6, 7, 8] := rfl
theorem range10 : List.range 10 = [0, 1, 2, 3, 4, 5, 6, 7, 8, 9] := rfl
theorem range11 : List.range 11 = [0, 1, 2, 3, 4, 5, 6, 7, 8, 9, 10] := rfl
theorem range12 : List.range 12 = [0, 1, 2, 3, 4, 5, 6, 7, 8, 9, 10, 11] := rfl
theorem range13 : List.range 13 = [0, 1, 2, 3, 4, 5, 6, 7, 8, 9, 10, 11, 12] := rfl
theorem range14 : List.range 14 = [0, 1, 2, 3, 4, 5, 6, 7, 8, 9, 10, 11, 12, 13] := rfl
theorem range15 : List.range 15 = [0, 1, 2, 3, 4, 5, 6, 7, 8, 9, 10, 11, 12, 13, 14] := rfl
theorem range16 : List.range 16 = [0, 1, 2, 3, 4, 5, 6, 7, 8, 9, 10, 11, 12, 13, 14, 15] := rfl
theorem range17 : List.range 17 = [0, 1, 2, 3, 4, 5, 6, 7, 8, 9, 10, 11, 12, 13, 14, 15, 16] := rfl
theorem range18 : List.range 18 = [0, 1, 2, 3, 4, 5, 6, 7, 8, 9, 10, 11, 12, 13, 14, 15, 16, 17] := rfl
theorem range19 : List.range 19 = [0, 1, 2, 3, 4, 5, 6, 7, 8, 9, 10, 11, 12, 13, 14, 15, 16, 17, 18] := rfl
theorem range20 : List.range 20 = [0, 1, 2, 3, 4, 5, 6, 7, 8, 9, 10, 11, 12, 13, 14, 15, 16, 17, 18, 19] := rfl
theorem range21 : List.range 21 = [0, 1, 2, 3, 4, 5, 6, 7, 8, 9, 10, 11, 12, 13, 14, 15, 16, 17, 18, 19, 20] := rfl
theorem range22 : List.range 22 = [0, 1, 2, 3, 4, 5, 6, 7, 8, 9, 10, 11, 12, 13, 14, 15, 16, 17, 18, 19, 20, 21] := rfl
theorem range23 : List.range 23 = [0, 1, 2, 3, 4, 5, 6, 7, 8, 9, 10, 11, 12, 13, 14, 15, 16, 17, 18, 19, 20, 21, 22] := rfl
theorem range24 : List.range 24 = [0, 1, 2, 3, 4, 5, 6, 7, 8, 9, 10, 11, 12, 13, 14, 15, 16, 17, 18, 19, 20, 21, 22, 23] := rfl
theorem range0 : List.range 0 = [] := rfl
theorem range1 : List.range 1 = [0] := rfl
def mInt (f : Int → Option Int) : MC := fun k => (f k).map fun x => .int .i64 x
def mSet (f : Int → Bool) : MC := fun k => if f k = true then some (.agg #[]) else none
def updF {α : Type} (f : Int → Option α) (k : Int) (v : α) : Int → Option α := fun j => if j = k then some v else f j
def delF {α : Type} (f : Int → Option α) (k : Int) : Int → Option α := fun j => if j = k then none else f j
def addF (f : Int → Bool) (k : Int) : Int → Bool := fun j => if j = k then true else f j
theorem mInt_nil : (fun _ => none : MC) = mInt fun _ => none := rfl
theorem mInt_upd (f : Int → Option Int) (k v : Int) : upd (mInt f) k (.int .i64 v) = mInt (updF f k v) := by
  funext j; unfold upd mInt updF; split <;> rfl
theorem mInt_del (f : Int → Option Int) (k : Int) : del (mInt f) k = mInt (delF f k) := by
  funext j; unfold del mInt delF; split <;> rfl
theorem mInt_get (f : Int → Option Int) (k : Int) : (mInt f k).getD (.int .i64 0) = .int .i64 ((f k).getD 0) := by
  unfold mInt; cases f k <;> rfl
theorem mInt_is (f : Int → Option Int) (k : Int) : (mInt f k).isSome = (f k).isSome := by
  unfold mInt; cases f k <;> rfl
theorem mSet_upd (f : Int → Bool) (k : Int) : upd (mSet f) k (.agg #[]) = mSet (addF f k) := by
  funext j; unfold upd mSet addF
  by_cases h : j = k
  · rw [if_pos h, if_pos (by rw [if_pos h])]
  · rw [if_neg h, if_neg h]
theorem mSet_get (f : Int → Bool) (k : Int) : (mSet f k).getD (.agg #[]) = .agg #[] := by
  unfold mSet; split <;> rfl
theorem mSet_is (f : Int → Bool) (k : Int) : (mSet f k).isSome = f k := by
  unfold mSet; cases h : f k <;> simp
theorem int_plain {x : Int} (h : -9223372036854775808 ≤ x ∧ x ≤ 9223372036854775807) : (mapR (.int .i64 x)).isSome = true := by
  show (if (Lit.int .i64 x).wf = true then some (DataW.lit (Lit.int .i64 x), ([] : List MemPlace)) else none).isSome = true; rw [if_pos (wf_int h.1 h.2)]; rfl
theorem unit_plain : (mapR (.agg #[])).isSome = true := by decide
theorem int_zero (w : World) : (zeroValue 3).run Tryz.prog w = .ok (.int .i64 0) w := by kernel_rfl
theorem unit_zero (w : World) : (zeroValue 141).run Tryz.prog w = .ok (.agg #[]) w := by kernel_rfl
set_option linter.unusedVariables false
set_option linter.unusedSimpArgs false
attribute [go_sem] Bool.true_beq Bool.false_beq beq_true beq_false cond_true cond_false dsts lapp_cons lapp_nil strip_mk strip_gd gix_some wantedS alF AS.ev AS.put putL arun drun alD kdOf isApp freeOp roOp extH List.any_cons List.any_nil Bool.or_false Bool.false_or Bool.or_true Bool.true_or aop abuiltin abox acells aload astore afieldAddr aindexAddr shiftA alen abin aint aun aconv apick_b apick_l apick_r amake aslice abound aappend aappendS aappendZ anews abuildSlice abuild afill asets splice azero aplaces apart afield aindex aggCells anilS anilP aeq notNil aminmax ashift astr TyKind.agg BinOp.isShift AV.one List.set_cons_succ List.set_cons_zero List.getD_cons_succ List.getD_cons_zero List.getElem?_cons_succ List.getElem?_cons_zero List.getElem?_toArray Option.map_some Option.map_none Option.bind_some List.map_cons List.map_nil List.headD_cons List.tail_cons List.take_succ_cons List.drop_succ_cons List.drop_zero List.take_zero List.take_nil if_true if_false Bool.false_eq_true Bool.not_true Bool.not_false beq_self_eq_true reduceCtorEq bne_self_eq_false tt_2 tt_3 tt_4 tt_5 tt_7 tt_9 tt_12 tt_13 tt_18 tt_20 tt_21 tt_22 tt_23 tt_24 tt_25 tt_26 tt_29 tt_30 tt_31 tt_32 tt_39 tt_41 tt_50 tt_51 tt_55 tt_56 tt_57 tt_62 tt_76 tt_77 tt_83 tt_86 tt_88 tt_89 tt_93 tt_98 tt_101 tt_102 tt_108 tt_117 tt_127 tt_133 tt_135 tt_136 tt_140 tt_141 tt_143 tt_158 tt_162 tt_164 tt_172 tt_175 tt_190 tt_197 tt_200 tt_205 tt_208 wrap_in ite_t ite_f dec_t dec_f beq_t beq_f bne_t bne_f nat_succ Int.toNat_natCast updS deadS and_true true_and ge_iff_le Nat.mul_one Nat.zero_add Nat.add_zero Nat.sub_zero lt_one_i lt_one_b lt_one_n List.all_cons List.all_nil Bool.and_true Bool.and_self Bool.true_and List.length_map List.length_append List.length_set lint_at lint_set lint_snoc lint_app2 lint_app3 lint_app4 lint_app5 take_mapL take_lint lint_one Nat.reduceMul Nat.reduceMod range0 range6 range7 range8 range9 range10 range11 range12 range13 range14 range15 range16 range17 range18 range19 range20 range21 range22 range23 range24 range1 range2 range3 range4 range5 List.length_cons List.length_nil Nat.reduceAdd Nat.reduceSub List.replicate_succ List.replicate_zero List.cons_append List.nil_append AV.rn rnL AV.idB idL okF okH selH atH AObj.rn newNo named rnL_lint idL_lint rnL_iv idL_iv rnL_app idL_app List.idxOf_cons_self List.idxOf_cons List.idxOf_nil List.contains_cons List.contains_nil List.elem_cons List.elem_nil Nat.not_lt_zero Nat.reduceLT Nat.reduceBEq decide_true decide_false Nat.succ_eq_add_one Nat.le_refl
theorem AX_ift {P : Program} {m : Nat} {Q : Exit → XS → Prop} {fr : List AV} {H : AHeap} {M : MS} {c : Operand} {x y : Code} (h : AX P m x Q ⟨fr, H, M⟩) (hc : AS.ev ⟨fr, H⟩ c = lt (.bool true) := by (simp only [go_sem] <;> fail)) : AX P m (.cond c x y) Q ⟨fr, H, M⟩ := AX_if_t hc h
theorem AX_iff {P : Program} {m : Nat} {Q : Exit → XS → Prop} {fr : List AV} {H : AHeap} {M : MS} {c : Operand} {x y : Code} (h : AX P m y Q ⟨fr, H, M⟩) (hc : AS.ev ⟨fr, H⟩ c = lt (.bool false) := by (simp only [go_sem] <;> fail)) : AX P m (.cond c x y) Q ⟨fr, H, M⟩ := AX_if_f hc h
theorem XOP {P : Program} {m : Nat} {Q : Exit → XS → Prop} {fr : List AV} {H : AHeap} {M : MS} {o : Oper} {l : List Oper} {tt : TT} (hT : TyOK P tt) (h : match aop tt ⟨fr, H⟩ o with | some (x, H') => XRes P m Q (l, ⟨putL fr o.dst x, H', M⟩) | none => False) (hw : wantedS fr o = some true := by (first | (with_reducible rfl) | (simp (disch := omega) only [go_sem] <;> fail))) : XRes P m Q (o :: l, ⟨fr, H, M⟩) := XRes_op hT hw h
theorem XTL {P : Program} {m : Nat} {Q : Exit → XS → Prop} {fr : List AV} {H : AHeap} {M : MS} {l : List Oper} {d : Option Tmp} {f : FuncId} {args : Array Operand} {tys : Array TypeId} {ty : TypeId} {pos : String} {after : Array Edge} {g : Option (Nat × Bool)} {fr' : List AV} (hw : wantedS fr ⟨d, .call { callee := .value (.func f), args := args, argTypes := tys }, ty, pos, after, g⟩ = some true) {x : AV} (hc : PF P f (args.toList.map (AS.ev ⟨fr, H⟩)) fun r H' => r = x ∧ H' = []) (h : XRes P m Q (l, ⟨fr', H, M⟩)) (hargs : ∀ a ∈ args.toList.map (AS.ev ⟨fr, H⟩), Ids 0 a := by exact idsA (by rfl)) (hx : ∀ k, x.ren k = x := by exact fun _ => rfl) (hf : putL fr d x = fr' := by (simp only [putL, List.set_cons_succ, List.set_cons_zero] <;> rfl)) : XRes P m Q (⟨d, .call { callee := .value (.func f), args := args, argTypes := tys }, ty, pos, after, g⟩ :: l, ⟨fr, H, M⟩) := XRes_tell hw hc hargs hx (by rw [hf]; exact h)
theorem ATL {P : Program} {fr : List AV} {H0 : AHeap} {l : List Oper} {tt : TT} {K : List AV → AHeap → Prop} (hT : TyOK P tt) {f : FuncId} {args : Array Operand} {tys : Array TypeId} {d : Option Tmp} {ty : TypeId} {pos : String} {after : Array Edge} {g : Option (Nat × Bool)} {fr' : List AV} (hw : wantedS fr ⟨d, .call { callee := .value (.func f), args := args, argTypes := tys }, ty, pos, after, g⟩ = some true) {x : AV} (hc : PF P f (args.toList.map (AS.ev ⟨fr, H0⟩)) fun r H' => r = x ∧ H' = []) (h : ADF P H0 K (l, fr')) (hargs : ∀ a ∈ args.toList.map (AS.ev ⟨fr, H0⟩), Ids 0 a := by exact idsA (by rfl)) (hx : ∀ k, x.ren k = x := by exact fun _ => rfl) (hf : putL fr d x = fr' := by (simp only [putL, List.set_cons_succ, List.set_cons_zero] <;> rfl)) : ADF P H0 K (⟨d, .call { callee := .value (.func f), args := args, argTypes := tys }, ty, pos, after, g⟩ :: l, fr) := ADF_tells hT hw hc hargs hx (by rw [hf]; exact h)
theorem AOP {P : Program} {fr : List AV} {H0 : AHeap} {o : Oper} {l : List Oper} {tt : TT} {K : List AV → AHeap → Prop} (hT : TyOK P tt) (h : match aop tt ⟨fr, H0⟩ o with | some (x, _) => ADF P H0 K (l, putL fr o.dst x) | none => False) (hr : runF o.op = true := by with_unfolding_all rfl) (hw : wantedS fr o = some true := by (first | (with_reducible rfl) | (simp (disch := omega) only [go_sem] <;> fail))) : ADF P H0 K (o :: l, fr) := ADF_op hT hr hw h
theorem ASK {P : Program} {fr : List AV} {H0 : AHeap} {o : Oper} {l : List Oper} {K : List AV → AHeap → Prop} {fr' : List AV} (h : ADF P H0 K (l, fr')) (hw : wantedS fr o = some false := by (first | with_unfolding_all rfl | (simp (disch := omega) only [go_sem] <;> fail))) (hf : putL fr o.dst uD = fr' := by (simp only [putL, List.set_cons_succ, List.set_cons_zero] <;> rfl)) : ADF P H0 K (o :: l, fr) := ADF_skip (b := true) hw (by rw [hf]; exact h)
theorem XSK {P : Program} {m : Nat} {Q : Exit → XS → Prop} {fr : List AV} {H : AHeap} {M : MS} {o : Oper} {l : List Oper} {fr' : List AV} (h : XRes P m Q (l, ⟨fr', H, M⟩)) (hw : wantedS fr o = some false := by (first | with_unfolding_all rfl | (simp (disch := omega) only [go_sem] <;> fail))) (hf : putL fr o.dst uD = fr' := by (simp only [putL, List.set_cons_succ, List.set_cons_zero] <;> rfl)) : XRes P m Q (o :: l, ⟨fr, H, M⟩) := XRes_skip hw (by rw [hf]; exact h)
theorem AWH {P : Program} {m : Nat} {Q : Exit → XS → Prop} {σ : Type} {fr : List AV} {H : AHeap} {M : MS} {c : Code} (ds : List Nat) (f : σ → List (Nat × AV)) (hp : σ → AHeap) (mp : σ → MS) (I : σ → Prop) (mm : σ → Nat) (st0 : σ) (hI : I st0) (round : ∀ (st : σ) (d : Nat → Value) (fr1 : List AV), fr1 = updS (deadS fr (fun i => lt (d i)) ds) (f st) → I st → AX P m c (thenX (WhX m ds f hp mp I mm fr (mm st)) Q) ⟨fr1, hp st, mp st⟩) (h0 : ∀ d : Nat → AV, deadS fr d ds = updS (deadS fr d ds) (f st0) := by (intro d; first | (simp only [deadS, updS, List.set_cons_succ, List.set_cons_zero, lint, List.length_nil, List.length_cons] <;> fail) | (simp only [deadS, updS, List.set_cons_succ, List.set_cons_zero, lint, List.length_nil, List.length_cons] <;> rfl) | rfl)) (hh0 : H = hp st0 := by (first | (with_reducible rfl) | rfl)) (hm0 : M = mp st0 := by (first | (with_reducible rfl) | rfl)) : AX P m (.loop c) Q ⟨fr, H, M⟩ := AX_wh ds f hp mp I mm st0 h0 hh0 hm0 hI round
theorem WRN {σ : Type} {m : Nat} {ds : List Nat} {f : σ → List (Nat × AV)} {hp : σ → AHeap} {mp : σ → MS} {I : σ → Prop} {mm : σ → Nat} {fr0 : List AV} {n : Nat} {fr : List AV} {H : AHeap} {M : MS} (sel : List Nat) (st' : σ) (hI : I st') (hm : mm st' < n) (hM : M = mp st' := by rfl) (hs1 : sel.Nodup := by decide) (hs2 : sel.all (fun p => decide (m ≤ p)) = true := by decide) (hH : okH (named m sel) (H.take m ++ sel.map (atH H)) = true := by (simp (disch := omega) only [go_sem, lint] <;> fail)) (hF : okF (named m sel) ds 0 fr = true := by (simp (disch := omega) only [go_sem, lint] <;> fail)) (hh : selH m sel H = hp st' := by (simp (disch := omega) only [go_sem, lint] <;> fail)) (h : ∀ d : Nat → AV, deadS (fr.map (AV.rn (newNo m sel))) d ds = updS (deadS fr0 d ds) (f st') := by (intro d; simp (disch := omega) only [go_sem, lint] <;> fail)) : WhX m ds f hp mp I mm fr0 n ⟨fr, H, M⟩ := whx_ren sel st' hI hm hM hs1 hs2 hH hF hh h
theorem WEND {σ : Type} {m : Nat} {ds : List Nat} {f : σ → List (Nat × AV)} {hp : σ → AHeap} {mp : σ → MS} {I : σ → Prop} {mm : σ → Nat} {fr0 : List AV} {n : Nat} {fr : List AV} {H : AHeap} {M : MS} (st' : σ) (hI : I st') (hm : mm st' < n) (hM : M = mp st' := by rfl) (hh : H = hp st' := by (first | rfl | (simp (disch := omega) only [go_sem, lint] <;> fail))) (h : ∀ d : Nat → AV, deadS fr d ds = updS (deadS fr0 d ds) (f st') := by (intro d; first | (simp only [deadS, updS, List.set_cons_succ, List.set_cons_zero, lint, List.length_nil, List.length_cons] <;> fail) | (simp only [deadS, updS, List.set_cons_succ, List.set_cons_zero, lint, List.length_nil, List.length_cons] <;> rfl) | rfl)) : WhX m ds f hp mp I mm fr0 n ⟨fr, H, M⟩ := whx_end st' hI hm hM hh h
structure Wk (p : Prop) : Prop where
  o : p

end Go.Proofs.YtcjnikkmjhagmaaGreatDoor
namespace Go.Proofs.YtcjnikkmjhagmaaGreatDoor
open Go.ChangeShapes Go.WideShapes Go.ChangeAt Go.RowKit
set_option linter.unusedVariables false
theorem list_of_getD {xs ys : List Int} (hl : xs.length = ys.length) (h : ∀ j, j < xs.length → xs.getD j 0 = ys.getD j 0) : xs = ys := by
  refine List.ext_getElem hl fun i h1 h2 => ?_
  have := h i h1
  simpa [List.getD, h1, h2] using this
def okI (ys : List Int) : Prop := ∀ j, -9223372036854775808 ≤ ys.getD j 0 ∧ ys.getD j 0 ≤ 9223372036854775807
theorem StructRow.flat {w : World} {a : Option Addr} {k len cap : Nat} (hk : 0 < k) (h : StructRow w k a len cap) : ∃ ys : List Int, ys.length = len * k ∧ okI ys ∧ RI (fun b => w.heap[b]?) (iFlat ys len k) (.slice a len cap) := by
  rcases Nat.eq_zero_or_pos len with h0 | h0
  · subst h0
    refine ⟨[], by simp, fun j => by simp, ?_⟩
    unfold iFlat
    cases a with
    | none => exact .nil _ _ _ h.2.1
    | some ad => exact .empty _ _ _ _ h.2.1
  · obtain ⟨b, off, ha, hc⟩ := h.2.2.2 h0
    subst ha
    have hx : ∀ j, j < len * k → ∃ z : Int, w.cell? ⟨b, off + j, none⟩ = some (.int .i64 z) ∧ -9223372036854775808 ≤ z ∧ z ≤ 9223372036854775807 := fun j hj => by
      have h1 : j / k < len := (Nat.div_lt_iff_lt_mul hk).2 hj
      have h2 : j % k < k := Nat.mod_lt _ hk
      obtain ⟨g, hg⟩ := hc (j / k) h1
      have h3 := hg (j % k) h2
      have h4 : off + j / k * k + j % k = off + j := by rw [Nat.add_assoc, Nat.div_add_mod']
      rw [h4] at h3
      exact ⟨_, h3⟩
    obtain ⟨f, hf⟩ := Go.Deep.choose_lt hx
    have hg : ∀ j, j < len * k → ((List.range (len * k)).map f).getD j 0 = f j := fun j hj => by simp [List.getD, hj]
    have h00 : 0 < len * k := Nat.mul_pos h0 hk
    obtain ⟨cs, t, fr, hb, _⟩ := cells_of_cell (hf 0 h00).1
    refine ⟨(List.range (len * k)).map f, by simp, fun j => ?_, ?_⟩
    · rcases Nat.lt_or_ge j (len * k) with hj | hj
      · rw [hg j hj]; exact (hf j hj).2
      · rw [List.getD_eq_getElem?_getD, List.getElem?_eq_none (by simpa using hj)]; simp
    · unfold iFlat
      refine .sl _ _ _ b off cap cs t fr (fun j => .int .i64 (((List.range (len * k)).map f).getD j 0)) hb (fun j hj => ?_) (fun j _ => .lit _) h.1 h.2.1
      have := (hf j hj).1
      rw [cell_of_heap hb] at this
      rw [hg j hj]; exact this
end Go.Proofs.YtcjnikkmjhagmaaGreatDoor
namespace Go.Proofs.YtcjnikkmjhagmaaGreatDoor
open Go.RowKit
abbrev opA (x : Op5) : AV := .agg [lt (.int .i64 x.p), lt (.int .i64 x.k), lt (.int .i64 x.s), lt (.int .i64 x.e), lt (.int .i64 x.r)]
def oFl (x : Op5) : List Int := [x.p, x.k, x.s, x.e, x.r]
def flatO (xs : List Op5) : List Int := xs.flatMap oFl
def iOps (xs : List Op5) : IV := iFlat (flatO xs) xs.length 5
theorem flatO_at {j : Nat} (hj : j < 5) (xs : List Op5) (i : Nat) : (flatO xs).getD (i * 5 + j) 0 = (oFl (oAt xs i)).getD j 0 := by
  refine flat_at (g := oFl) (w := 5) (fun _ => rfl) _ hj ?_ xs i
  match j, hj with | 0, _ | 1, _ | 2, _ | 3, _ | 4, _ => rfl
theorem flatO_p (xs : List Op5) (i : Nat) : (flatO xs).getD (i * 5) 0 = (oAt xs i).p := flatO_at (j := 0) (by omega) xs i
theorem flatO_k (xs : List Op5) (i : Nat) : (flatO xs).getD (i * 5 + 1) 0 = (oAt xs i).k := flatO_at (j := 1) (by omega) xs i
theorem flatO_s (xs : List Op5) (i : Nat) : (flatO xs).getD (i * 5 + 2) 0 = (oAt xs i).s := flatO_at (j := 2) (by omega) xs i
theorem flatO_e (xs : List Op5) (i : Nat) : (flatO xs).getD (i * 5 + 3) 0 = (oAt xs i).e := flatO_at (j := 3) (by omega) xs i
theorem flatO_r (xs : List Op5) (i : Nat) : (flatO xs).getD (i * 5 + 4) 0 = (oAt xs i).r := flatO_at (j := 4) (by omega) xs i
end Go.Proofs.YtcjnikkmjhagmaaGreatDoor
