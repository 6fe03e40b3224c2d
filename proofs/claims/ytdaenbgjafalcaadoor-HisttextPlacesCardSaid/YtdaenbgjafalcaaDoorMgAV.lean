import Derived.Test.YtdaenbgjafalcaaDoorMgAM
import Derived.Test.YtdaenbgjafalcaaDoorMgAI
import Derived.DeepKeys
import Derived.Laws.StructEq
import Derived.WideLaws
namespace Go.Proofs.YtdaenbgjafalcaaDoor
open Go.RowKit
set_option linter.unusedVariables false
set_option linter.unusedSimpArgs false
theorem rnL_lint (r : Nat → Nat) (xs : List Int) : rnL r (xs.map lint) = xs.map lint := by rw [rnL_map, List.map_map]; rfl
theorem idL_lint (p : Nat → Bool) (xs : List Int) : idL p (xs.map lint) = true := by rw [idL_all, List.all_map, List.all_eq_true]; exact fun _ _ => rfl
theorem rnL_iv {α : Type} (r : Nat → Nat) (g : α → IV) (xs : List α) : rnL r (xs.map fun x => .iv (g x)) = xs.map fun x => .iv (g x) := by rw [rnL_map, List.map_map]; rfl
theorem idL_iv {α : Type} (p : Nat → Bool) (g : α → IV) (xs : List α) : idL p (xs.map fun x => .iv (g x)) = true := by rw [idL_all, List.all_map, List.all_eq_true]; exact fun _ _ => rfl
theorem rnL_app (r : Nat → Nat) (xs ys : List AV) : rnL r (xs ++ ys) = rnL r xs ++ rnL r ys := by simp [rnL_map]
theorem idL_app (p : Nat → Bool) (xs ys : List AV) : idL p (xs ++ ys) = (idL p xs && idL p ys) := by simp [idL_all]
theorem lint_at {xs : List Int} {k : Nat} (h : k < xs.length) : (xs.map lint)[k]? = some (lt (.int .i64 (xs.getD k 0))) := by
  rw [List.getElem?_map, List.getD_eq_getElem?_getD, List.getElem?_eq_getElem h]; rfl
theorem lint_set (xs : List Int) (k : Nat) (v : Int) : (xs.map lint).set k (lt (.int .i64 v)) = (xs.set k v).map lint := by rw [List.map_set]; rfl
theorem lint_snoc (xs : List Int) (v : Int) : xs.map lint ++ [lt (.int .i64 v)] = (xs ++ [v]).map lint := by rw [List.map_append]; rfl
theorem take_mapL {α β : Type} (f : α → β) (xs : List α) : (xs.map f).take xs.length = xs.map f := by rw [List.take_of_length_le (by simp)]
theorem lint_one (xs : List Int) : (xs.map lint).all AV.one = true := by rw [List.all_map, List.all_eq_true]; exact fun _ _ => rfl
mutual
theorem ids_idB : ∀ {x : AV}, x.idB (fun _ => false) = true → Ids 0 x
  | .iv x, _ => .iv x
  | .agg xs, h => .agg xs (ids_idL h)
  | .tup xs, h => .tup xs (ids_idL h)
  | .osl o off len sz, h => by simp [AV.idB] at h
  | .optr o off, h => by simp [AV.idB] at h
  | .fn f first caps, h => by
    have h' : idL (fun _ => false) first = true ∧ idL (fun _ => false) caps = true := by simpa [AV.idB] using h
    exact .fn f first caps (ids_idL h'.1) (ids_idL h'.2)
theorem ids_idL : ∀ {xs : List AV}, idL (fun _ => false) xs = true → ∀ (i : Nat) (x : AV), xs[i]? = some x → Ids 0 x
  | [], h, i, x, e => by simp at e
  | y :: ys, h, 0, x, e => by
    unfold idL at h; rw [Bool.and_eq_true] at h
    simp at e; subst e; exact ids_idB h.1
  | y :: ys, h, i + 1, x, e => by
    unfold idL at h; rw [Bool.and_eq_true] at h
    exact ids_idL h.2 i x (by simpa using e)
end
theorem idsA {xs : List AV} (h : idL (fun _ => false) xs = true) : ∀ a ∈ xs, Ids 0 a := fun a ha => by
  obtain ⟨i, hi⟩ := List.mem_iff_getElem?.1 ha
  exact ids_idL h i a hi
def iFlat (ys : List Int) (n w : Nat) : IV := .sl (fun j => .lit (.int .i64 (ys.getD j 0))) n w
theorem snap_flat {H : AHeap} {o n w : Nat} {t : TypeId} {ys : List Int} (h : H[o]? = some (some ⟨t, ys.map lint⟩)) (hw : w ≠ 0) (hl : ys.length = n * w) : Snap H (.osl o 0 n w) (.iv (iFlat ys n w)) :=
  .iv _ _ (.osl o 0 n w _ _ (fun j => lt (.int .i64 (ys.getD j 0))) hw h (fun j hj => by rw [Nat.zero_add]; exact lint_at (by omega)) fun j _ => .iv _)
theorem lint_app2 (xs : List Int) (a b : Int) : xs.map lint ++ [lt (.int .i64 a), lt (.int .i64 b)] = (xs ++ [a, b]).map lint := by rw [List.map_append]; rfl
theorem lint_app3 (xs : List Int) (a b c : Int) : xs.map lint ++ [lt (.int .i64 a), lt (.int .i64 b), lt (.int .i64 c)] = (xs ++ [a, b, c]).map lint := by rw [List.map_append]; rfl
theorem lint_app4 (xs : List Int) (a b c d : Int) : xs.map lint ++ [lt (.int .i64 a), lt (.int .i64 b), lt (.int .i64 c), lt (.int .i64 d)] = (xs ++ [a, b, c, d]).map lint := by rw [List.map_append]; rfl
theorem lint_app5 (xs : List Int) (a b c d e : Int) : xs.map lint ++ [lt (.int .i64 a), lt (.int .i64 b), lt (.int .i64 c), lt (.int .i64 d), lt (.int .i64 e)] = (xs ++ [a, b, c, d, e]).map lint := by rw [List.map_append]; rfl
theorem take_lint {xs : List Int} {n : Nat} (h : xs.length ≤ n) : (xs.map lint).take n = xs.map lint := List.take_of_length_le (by simpa using h)
theorem flat_len {α : Type} {g : α → List Int} {w : Nat} (hg : ∀ x, (g x).length = w) (xs : List α) : (xs.flatMap g).length = xs.length * w := by
  induction xs with
  | nil => simp
  | cons x xs ih => rw [List.flatMap_cons, List.length_append, hg, ih, List.length_cons, Nat.succ_mul]; omega
theorem flat_getD {α : Type} {g : α → List Int} {w : Nat} (hg : ∀ x, (g x).length = w) {j : Nat} (hj : j < w) : ∀ (xs : List α) (i : Nat), (xs.flatMap g).getD (i * w + j) 0 = ((xs[i]?).map fun x => (g x).getD j 0).getD 0
  | [], i => by simp
  | x :: xs, 0 => by
    rw [List.flatMap_cons, List.getD_eq_getElem?_getD, List.getElem?_append_left (by rw [hg]; omega)]
    simp [List.getD_eq_getElem?_getD]
  | x :: xs, i + 1 => by
    have ih := flat_getD hg hj xs i
    rw [List.flatMap_cons, List.getD_eq_getElem?_getD, List.getElem?_append_right (by rw [hg, Nat.succ_mul]; omega), hg, show (i + 1) * w + j - w = i * w + j by rw [Nat.succ_mul]; omega, ← List.getD_eq_getElem?_getD, ih]
    simp
theorem flat_at {α : Type} {g : α → List Int} {w : Nat} (hg : ∀ x, (g x).length = w) (z : α) {j : Nat} (hj : j < w) (hz : (g z).getD j 0 = 0) (xs : List α) (i : Nat) : (xs.flatMap g).getD (i * w + j) 0 = (g (xs.getD i z)).getD j 0 := by
  rw [flat_getD hg hj]
  have e : xs.getD i z = (xs[i]?).getD z := List.getD_eq_getElem?_getD
  rw [e]
  cases xs[i]? with
  | some x => rfl
  | none => exact hz.symm
theorem range2 : List.range 2 = [0, 1] := rfl
theorem range3 : List.range 3 = [0, 1, 2] := rfl
theorem range4 : List.range 4 = [0, 1, 2, 3] := rfl
theorem range5 : List.range 5 = [0, 1, 2, 3, 4] := rfl
theorem range6 : List.range 6 = [0, 1, 2, 3, 4, 5] := rfl
theorem range7 : List.range 7 = [0, 1, 2, 3, 4, 5, 6] := rfl
theorem range8 : List.range 8 = [0, 1, 2, 3, 4, 5, 6, 7] := rfl
theorem range9 : List.range 9 = [0, 1, 2, 3, 4, 5, 6, 7, 8] := rfl
theorem range10 : List.range 10 = [0, 1, 2, 3, 4, 5, 6, 7, 8, 9] := rfl
theorem range11 : List.range 11 = [0, 1, 2, 3, 4, 5, 6, 7, 8, 9, 10] := rfl
theorem range12 : List.range 12 = [0, 1, 2, 3, 4, 5, 6, 7, 8, 9, 10, 11] := rfl
theorem range13 : List.range 13 = [0, 1, 2, 3, 4, 5, 6, 7, 8, 9, 10, 11, 12] := rfl
theorem range14 : List.range 14 = [0, 1, 2, 3, 4, 5, 6, 7, 8, 9, 10, 11, 12, 13] := rfl
theorem range15 : List.range 15 = [0, 1, 2, 3, 4, 5, 6, 7, 8, 9, 10, 11, 12, 13, 14] := rfl
theorem range16 : List.range 16 = [0, 1, 2, 3, 4, 5, 6, 7, 8, 9, 10, 11, 12, 13, 14, 15] := rfl
theorem range17 : List.range 17 = [0, 1, 2, 3, 4, 5, 6, 7, 8, 9, 10, 11, 12, 13, 14, 15, 16] := rfl
theorem range18 : List.range 18 = [0, 1, 2, 3, 4, 5, 6, 7, 8, 9, 10, 11, 12, 13, 14, 15, 16, 17] := rfl
theorem range19 : List.range 19 = [0, 1, 2, 3, 4, 5, 6, 7, 8, 9, 10, 11, 12, 13, 14, 15, 16, 17, 18] := rfl
theorem range20 : List.range 20 = [0, 1, 2, 3, 4, 5, 6, 7, 8, 9, 10, 11, 12, 13, 14, 15, 16, 17, 18, 19] := rfl
theorem range21 : List.range 21 = [0, 1, 2, 3, 4, 5, 6, 7, 8, 9, 10, 11, 12, 13, 14, 15, 16, 17, 18, 19, 20] := rfl
theorem range22 : List.range 22 = [0, 1, 2, 3, 4, 5, 6, 7, 8, 9, 10, 11, 12, 13, 14, 15, 16, 17, 18, 19, 20, 21] := rfl
theorem range23 : List.range 23 = [0, 1, 2, 3, 4, 5, 6, 7, 8, 9, 10, 11, 12, 13, 14, 15, 16, 17, 18, 19, 20, 21, 22] := rfl
theorem range24 : List.range 24 = [0, 1, 2, 3, 4, 5, 6, 7, 8, 9, 10, 11, 12, 13, 14, 15, 16, 17, 18, 19, 20, 21, 22, 23] := rfl
theorem range0 : List.range 0 = [] := rfl
theorem range1 : List.range 1 = [0] := rfl
def mInt (f : Int → Option Int) : MC := fun k => (f k).map fun x => .int .i64 x
def mSet (f : Int → Bool) : MC := fun k => if f k = true then some (.agg #[]) else none
def updF {α : Type} (f : Int → Option α) (k : Int) (v : α) : Int → Option α := fun j => if j = k then some v else f j
def delF {α : Type} (f : Int → Option α) (k : Int) : Int → Option α := fun j => if j = k then none else f j
def addF (f : Int → Bool) (k : Int) : Int → Bool := fun j => if j = k then true else f j
theorem mInt_upd (f : Int → Option Int) (k v : Int) : upd (mInt f) k (.int .i64 v) = mInt (updF f k v) := by
  funext j; unfold upd mInt updF; split <;> rfl
theorem mInt_del (f : Int → Option Int) (k : Int) : del (mInt f) k = mInt (delF f k) := by
  funext j; unfold del mInt delF; split <;> rfl
theorem mInt_get (f : Int → Option Int) (k : Int) : (mInt f k).getD (.int .i64 0) = .int .i64 ((f k).getD 0) := by
  unfold mInt; cases f k <;> rfl
theorem mInt_is (f : Int → Option Int) (k : Int) : (mInt f k).isSome = (f k).isSome := by
  unfold mInt; cases f k <;> rfl
theorem mSet_upd (f : Int → Bool) (k : Int) : upd (mSet f) k (.agg #[]) = mSet (addF f k) := by
  funext j; unfold upd mSet addF
  by_cases h : j = k
  · rw [if_pos h, if_pos (by rw [if_pos h])]
  · rw [if_neg h, if_neg h]
theorem mSet_get (f : Int → Bool) (k : Int) : (mSet f k).getD (.agg #[]) = .agg #[] := by
  unfold mSet; split <;> rfl
theorem mSet_is (f : Int → Bool) (k : Int) : (mSet f k).isSome = f k := by
  unfold mSet; cases h : f k <;> simp
theorem int_plain {x : Int} (h : -9223372036854775808 ≤ x ∧ x ≤ 9223372036854775807) : (mapR (.int .i64 x)).isSome = true := by
  show (if (Lit.int .i64 x).wf = true then some (DataW.lit (Lit.int .i64 x), ([] : List MemPlace)) else none).isSome = true; rw [if_pos (wf_int h.1 h.2)]; rfl
theorem int_zero (w : World) : (zeroValue 3).run Tryd.prog w = .ok (.int .i64 0) w := by kernel_rfl
set_option linter.unusedVariables false
set_option linter.unusedSimpArgs false
attribute [go_sem] Bool.true_beq Bool.false_beq beq_true beq_false cond_true cond_false dsts lapp_cons lapp_nil strip_mk strip_gd gix_some wantedS alF AS.ev AS.put putL arun drun alD kdOf isApp freeOp roOp extH List.any_cons List.any_nil Bool.or_false Bool.false_or Bool.or_true Bool.true_or aop abuiltin abox acells aload astore afieldAddr aindexAddr shiftA alen abin aint aun aconv apick_b apick_l apick_r amake aslice abound aappend aappendS aappendZ anews abuildSlice abuild afill asets splice azero aplaces apart afield aindex aggCells anilS anilP aeq notNil aminmax ashift astr TyKind.agg BinOp.isShift AV.one List.set_cons_succ List.set_cons_zero List.getD_cons_succ List.getD_cons_zero List.getElem?_cons_succ List.getElem?_cons_zero List.getElem?_toArray Option.map_some Option.map_none Option.bind_some List.map_cons List.map_nil List.headD_cons List.tail_cons List.take_succ_cons List.drop_succ_cons List.drop_zero List.take_zero List.take_nil if_true if_false Bool.false_eq_true Bool.not_true Bool.not_false beq_self_eq_true reduceCtorEq bne_self_eq_false tt_2 tt_3 tt_4 tt_5 tt_7 tt_9 tt_12 tt_13 tt_18 tt_20 tt_21 tt_23 tt_24 tt_25 tt_26 tt_27 tt_28 tt_29 tt_45 tt_47 tt_48 tt_49 tt_50 tt_51 tt_57 tt_64 tt_68 tt_69 tt_70 tt_71 tt_72 tt_73 tt_81 tt_97 tt_98 tt_99 tt_101 tt_109 tt_111 tt_112 tt_114 tt_133 tt_138 tt_141 tt_144 tt_147 tt_149 tt_150 tt_155 tt_156 tt_160 tt_161 tt_162 tt_165 tt_168 tt_176 wrap_in ite_t ite_f dec_t dec_f beq_t beq_f bne_t bne_f nat_succ Int.toNat_natCast updS deadS and_true true_and ge_iff_le Nat.mul_one Nat.zero_add Nat.add_zero Nat.sub_zero lt_one_i lt_one_b lt_one_n List.all_cons List.all_nil Bool.and_true Bool.and_self Bool.true_and List.length_map List.length_append List.length_set lint_at lint_set lint_snoc lint_app2 lint_app3 lint_app4 lint_app5 take_mapL take_lint lint_one Nat.reduceMul Nat.reduceMod range0 range6 range7 range8 range9 range10 range11 range12 range13 range14 range15 range16 range17 range18 range19 range20 range21 range22 range23 range24 range1 range2 range3 range4 range5 List.length_cons List.length_nil Nat.reduceAdd Nat.reduceSub List.replicate_succ List.replicate_zero List.cons_append List.nil_append AV.rn rnL AV.idB idL okF okH selH atH AObj.rn newNo named rnL_lint idL_lint rnL_iv idL_iv rnL_app idL_app List.idxOf_cons_self List.idxOf_cons List.idxOf_nil List.contains_cons List.contains_nil List.elem_cons List.elem_nil Nat.not_lt_zero Nat.reduceLT Nat.reduceBEq decide_true decide_false Nat.succ_eq_add_one Nat.le_refl
theorem AX_ift {P : Program} {m : Nat} {Q : Exit → XS → Prop} {fr : List AV} {H : AHeap} {M : MS} {c : Operand} {x y : Code} (h : AX P m x Q ⟨fr, H, M⟩) (hc : AS.ev ⟨fr, H⟩ c = lt (.bool true) := by (simp only [go_sem] <;> fail)) : AX P m (.cond c x y) Q ⟨fr, H, M⟩ := AX_if_t hc h
theorem AX_iff {P : Program} {m : Nat} {Q : Exit → XS → Prop} {fr : List AV} {H : AHeap} {M : MS} {c : Operand} {x y : Code} (h : AX P m y Q ⟨fr, H, M⟩) (hc : AS.ev ⟨fr, H⟩ c = lt (.bool false) := by (simp only [go_sem] <;> fail)) : AX P m (.cond c x y) Q ⟨fr, H, M⟩ := AX_if_f hc h
theorem XOP {P : Program} {m : Nat} {Q : Exit → XS → Prop} {fr : List AV} {H : AHeap} {M : MS} {o : Oper} {l : List Oper} {tt : TT} (hT : TyOK P tt) (h : match aop tt ⟨fr, H⟩ o with | some (x, H') => XRes P m Q (l, ⟨putL fr o.dst x, H', M⟩) | none => False) (hw : wantedS fr o = some true := by (first | (with_reducible rfl) | (simp (disch := omega) only [go_sem] <;> fail))) : XRes P m Q (o :: l, ⟨fr, H, M⟩) := XRes_op hT hw h
theorem XTL {P : Program} {m : Nat} {Q : Exit → XS → Prop} {fr : List AV} {H : AHeap} {M : MS} {l : List Oper} {d : Option Tmp} {f : FuncId} {args : Array Operand} {tys : Array TypeId} {ty : TypeId} {pos : String} {after : Array Edge} {g : Option (Nat × Bool)} {fr' : List AV} (hw : wantedS fr ⟨d, .call { callee := .value (.func f), args := args, argTypes := tys }, ty, pos, after, g⟩ = some true) {x : AV} (hc : PF P f (args.toList.map (AS.ev ⟨fr, H⟩)) fun r H' => r = x ∧ H' = []) (h : XRes P m Q (l, ⟨fr', H, M⟩)) (hargs : ∀ a ∈ args.toList.map (AS.ev ⟨fr, H⟩), Ids 0 a := by exact idsA (by rfl)) (hx : ∀ k, x.ren k = x := by exact fun _ => rfl) (hf : putL fr d x = fr' := by (simp only [putL, List.set_cons_succ, List.set_cons_zero] <;> rfl)) : XRes P m Q (⟨d, .call { callee := .value (.func f), args := args, argTypes := tys }, ty, pos, after, g⟩ :: l, ⟨fr, H, M⟩) := XRes_tell hw hc hargs hx (by rw [hf]; exact h)
theorem ATL {P : Program} {fr : List AV} {H0 : AHeap} {l : List Oper} {tt : TT} {K : List AV → AHeap → Prop} (hT : TyOK P tt) {f : FuncId} {args : Array Operand} {tys : Array TypeId} {d : Option Tmp} {ty : TypeId} {pos : String} {after : Array Edge} {g : Option (Nat × Bool)} {fr' : List AV} (hw : wantedS fr ⟨d, .call { callee := .value (.func f), args := args, argTypes := tys }, ty, pos, after, g⟩ = some true) {x : AV} (hc : PF P f (args.toList.map (AS.ev ⟨fr, H0⟩)) fun r H' => r = x ∧ H' = []) (h : ADF P H0 K (l, fr')) (hargs : ∀ a ∈ args.toList.map (AS.ev ⟨fr, H0⟩), Ids 0 a := by exact idsA (by rfl)) (hx : ∀ k, x.ren k = x := by exact fun _ => rfl) (hf : putL fr d x = fr' := by (simp only [putL, List.set_cons_succ, List.set_cons_zero] <;> rfl)) : ADF P H0 K (⟨d, .call { callee := .value (.func f), args := args, argTypes := tys }, ty, pos, after, g⟩ :: l, fr) := ADF_tells hT hw hc hargs hx (by rw [hf]; exact h)
theorem AOP {P : Program} {fr : List AV} {H0 : AHeap} {o : Oper} {l : List Oper} {tt : TT} {K : List AV → AHeap → Prop} (hT : TyOK P tt) (h : match aop tt ⟨fr, H0⟩ o with | some (x, _) => ADF P H0 K (l, putL fr o.dst x) | none => False) (hr : runF o.op = true := by with_unfolding_all rfl) (hw : wantedS fr o = some true := by (first | (with_reducible rfl) | (simp (disch := omega) only [go_sem] <;> fail))) : ADF P H0 K (o :: l, fr) := ADF_op hT hr hw h
theorem ASK {P : Program} {fr : List AV} {H0 : AHeap} {o : Oper} {l : List Oper} {K : List AV → AHeap → Prop} {fr' : List AV} (h : ADF P H0 K (l, fr')) (hw : wantedS fr o = some false := by (first | with_unfolding_all rfl | (simp (disch := omega) only [go_sem] <;> fail))) (hf : putL fr o.dst uD = fr' := by (simp only [putL, List.set_cons_succ, List.set_cons_zero] <;> rfl)) : ADF P H0 K (o :: l, fr) := ADF_skip (b := true) hw (by rw [hf]; exact h)
theorem XSK {P : Program} {m : Nat} {Q : Exit → XS → Prop} {fr : List AV} {H : AHeap} {M : MS} {o : Oper} {l : List Oper} {fr' : List AV} (h : XRes P m Q (l, ⟨fr', H, M⟩)) (hw : wantedS fr o = some false := by (first | with_unfolding_all rfl | (simp (disch := omega) only [go_sem] <;> fail))) (hf : putL fr o.dst uD = fr' := by (simp only [putL, List.set_cons_succ, List.set_cons_zero] <;> rfl)) : XRes P m Q (o :: l, ⟨fr, H, M⟩) := XRes_skip hw (by rw [hf]; exact h)
theorem AWH {P : Program} {m : Nat} {Q : Exit → XS → Prop} {σ : Type} {fr : List AV} {H : AHeap} {M : MS} {c : Code} (ds : List Nat) (f : σ → List (Nat × AV)) (hp : σ → AHeap) (mp : σ → MS) (I : σ → Prop) (mm : σ → Nat) (st0 : σ) (hI : I st0) (round : ∀ (st : σ) (d : Nat → Value) (fr1 : List AV), fr1 = updS (deadS fr (fun i => lt (d i)) ds) (f st) → I st → AX P m c (thenX (WhX m ds f hp mp I mm fr (mm st)) Q) ⟨fr1, hp st, mp st⟩) (h0 : ∀ d : Nat → AV, deadS fr d ds = updS (deadS fr d ds) (f st0) := by (intro d; first | (simp only [deadS, updS, List.set_cons_succ, List.set_cons_zero, lint, List.length_nil, List.length_cons] <;> fail) | (simp only [deadS, updS, List.set_cons_succ, List.set_cons_zero, lint, List.length_nil, List.length_cons] <;> rfl) | rfl)) (hh0 : H = hp st0 := by (first | (with_reducible rfl) | rfl)) (hm0 : M = mp st0 := by (first | (with_reducible rfl) | rfl)) : AX P m (.loop c) Q ⟨fr, H, M⟩ := AX_wh ds f hp mp I mm st0 h0 hh0 hm0 hI round
theorem WRN {σ : Type} {m : Nat} {ds : List Nat} {f : σ → List (Nat × AV)} {hp : σ → AHeap} {mp : σ → MS} {I : σ → Prop} {mm : σ → Nat} {fr0 : List AV} {n : Nat} {fr : List AV} {H : AHeap} {M : MS} (sel : List Nat) (st' : σ) (hI : I st') (hm : mm st' < n) (hM : M = mp st' := by rfl) (hs1 : sel.Nodup := by decide) (hs2 : sel.all (fun p => decide (m ≤ p)) = true := by decide) (hH : okH (named m sel) (H.take m ++ sel.map (atH H)) = true := by (simp (disch := omega) only [go_sem, lint] <;> fail)) (hF : okF (named m sel) ds 0 fr = true := by (simp (disch := omega) only [go_sem, lint] <;> fail)) (hh : selH m sel H = hp st' := by (simp (disch := omega) only [go_sem, lint] <;> fail)) (h : ∀ d : Nat → AV, deadS (fr.map (AV.rn (newNo m sel))) d ds = updS (deadS fr0 d ds) (f st') := by (intro d; simp (disch := omega) only [go_sem, lint] <;> fail)) : WhX m ds f hp mp I mm fr0 n ⟨fr, H, M⟩ := whx_ren sel st' hI hm hM hs1 hs2 hH hF hh h
theorem WEND {σ : Type} {m : Nat} {ds : List Nat} {f : σ → List (Nat × AV)} {hp : σ → AHeap} {mp : σ → MS} {I : σ → Prop} {mm : σ → Nat} {fr0 : List AV} {n : Nat} {fr : List AV} {H : AHeap} {M : MS} (st' : σ) (hI : I st') (hm : mm st' < n) (hM : M = mp st' := by rfl) (hh : H = hp st' := by (first | rfl | (simp (disch := omega) only [go_sem, lint] <;> fail))) (h : ∀ d : Nat → AV, deadS fr d ds = updS (deadS fr0 d ds) (f st') := by (intro d; first | (simp only [deadS, updS, List.set_cons_succ, List.set_cons_zero, lint, List.length_nil, List.length_cons] <;> fail) | (simp only [deadS, updS, List.set_cons_succ, List.set_cons_zero, lint, List.length_nil, List.length_cons] <;> rfl) | rfl)) : WhX m ds f hp mp I mm fr0 n ⟨fr, H, M⟩ := whx_end st' hI hm hM hh h
structure Wk (p : Prop) : Prop where
  o : p

end Go.Proofs.YtdaenbgjafalcaaDoor
namespace Go.Proofs.YtdaenbgjafalcaaDoor
open Go.RowKit
set_option linter.unusedVariables false
set_option linter.unusedSimpArgs false
def isI64 (P : Program) (t : TypeId) : Bool := (match P.underlying t with | some (.int .i64) => true | _ => false) && P.plainKey t
def intFields (P : Program) : Nat → List Field → Bool
  | _, [] => true
  | k, f :: fs => f.name != "_" && f.offset == k && isI64 P f.type && intFields P (k + 1) fs
def eqOK (P : Program) (t n : Nat) : Bool := !P.eqGuardType P.depth t && match P.underlying t with
  | some (.struct fs) => intFields P 0 fs.toList && fs.toList.length == n && !P.stoodInHeld t
  | some (.array k e) => isI64 P e && P.cellsOf e == 1 && k == n && (P.info? e).isSome
  | _ => false
section
variable {P : Program}
theorem i64_part {t : TypeId} (h : isI64 P t = true) {xs : Array Value} {i : Nat} {a : Int} (hx : xs[i]? = some (.int .i64 a)) (w : World) : (part t xs i).run P w = .ok (.int .i64 a) w := by
  unfold isI64 at h; rw [Bool.and_eq_true] at h
  exact run_part_plain w h.2 hx
theorem i64_eq {t : TypeId} (h : isI64 P t = true) (d : Nat) (a b : Int) (w : World) : (Op.equalIn (d + 1) t (.int .i64 a) (.int .i64 b)).run P w = .ok (a == b) w := by
  unfold isI64 at h; rw [Bool.and_eq_true] at h
  have h1 := h.1
  split at h1
  · rename_i hu; exact run_equalIn_int w d t .i64 .i64 a b hu
  · cases h1
theorem drop_cons {xs : List Value} {k : Nat} {v : Value} {l : List Value} (h : xs.drop k = v :: l) : xs[k]? = some v ∧ xs.drop (k + 1) = l := by
  constructor
  · have := congrArg (fun l => l[0]?) h; simpa using this
  · have := congrArg List.tail h; simpa using this
theorem eqFields_ints (d : Nat) (xs ys : Array Value) (w : World) : ∀ (fs : List Field) (k : Nat) (us vs2 : List Int), intFields P k fs = true → us.length = fs.length → vs2.length = fs.length → xs.toList.drop k = us.map (Value.int .i64) → ys.toList.drop k = vs2.map (Value.int .i64) →
    (Op.eqFields (d + 1) xs ys fs).run P w = .ok (us == vs2) w
  | [], k, us, vs2, _, h1, h2, _, _ => by
    rw [List.length_eq_zero_iff.1 h1, List.length_eq_zero_iff.1 h2]; simp [Op.eqFields]
  | f :: fs, k, [], vs2, _, h1, _, _, _ => by simp at h1
  | f :: fs, k, a :: us, [], _, _, h2, _, _ => by simp at h2
  | f :: fs, k, a :: us, b :: vs2, h, h1, h2, hx, hy => by
    unfold intFields at h
    simp only [Bool.and_eq_true, bne_iff_ne, beq_iff_eq] at h
    obtain ⟨⟨⟨n1, n2⟩, n3⟩, n4⟩ := h
    obtain ⟨x1, x2⟩ := drop_cons hx
    obtain ⟨y1, y2⟩ := drop_cons hy
    rw [Array.getElem?_toList] at x1 y1
    have ih := eqFields_ints d xs ys w fs (k + 1) us vs2 n4 (by simpa using h1) (by simpa using h2) x2 y2
    simp only [Op.eqFields, n1, ne_eq, not_false_eq_true, if_true, Sem.run_bind, n2, i64_part n3 x1, i64_part n3 y1, i64_eq n3, Result.andThen_ok]
    by_cases hab : a = b
    · subst hab; simpa using ih
    · simp [hab]
theorem eqItems_ints (d : Nat) {e : TypeId} (he : isI64 P e = true) (xs ys : Array Value) (w : World) : ∀ (n k : Nat) (us vs2 : List Int), us.length = n → vs2.length = n → xs.toList.drop k = us.map (Value.int .i64) → ys.toList.drop k = vs2.map (Value.int .i64) →
    (Op.eqItems (d + 1) e 1 xs ys (List.range' k n)).run P w = .ok (us == vs2) w
  | 0, k, us, vs2, h1, h2, _, _ => by
    rw [List.length_eq_zero_iff.1 h1, List.length_eq_zero_iff.1 h2]; simp [Op.eqItems]
  | n + 1, k, [], vs2, h1, _, _, _ => by simp at h1
  | n + 1, k, a :: us, [], _, h2, _, _ => by simp at h2
  | n + 1, k, a :: us, b :: vs2, h1, h2, hx, hy => by
    obtain ⟨x1, x2⟩ := drop_cons hx
    obtain ⟨y1, y2⟩ := drop_cons hy
    rw [Array.getElem?_toList] at x1 y1
    have ih := eqItems_ints d he xs ys w n (k + 1) us vs2 (by simpa using h1) (by simpa using h2) x2 y2
    rw [List.range'_succ]
    simp only [Op.eqItems, Sem.run_bind, Nat.mul_one, i64_part he x1, i64_part he y1, i64_eq he, Result.andThen_ok]
    by_cases hab : a = b
    · subst hab; simpa using ih
    · simp [hab]
theorem eq_ints {t n : Nat} (h : eqOK P t n = true) {us vs2 : List Int} (h1 : us.length = n) (h2 : vs2.length = n) (w : World) : (Op.equalIn 10000 t (.agg (us.map (Value.int .i64)).toArray) (.agg (vs2.map (Value.int .i64)).toArray)).run P w = .ok (us == vs2) w := by
  unfold eqOK at h
  rw [Bool.and_eq_true] at h
  have h := h.2
  split at h
  · rename_i fs hu
    simp only [Bool.and_eq_true, beq_iff_eq, Bool.not_eq_true'] at h
    obtain ⟨⟨f1, f2⟩, f3⟩ := h
    have hf : P.fieldsOf t = fs := by unfold Program.fieldsOf; rw [hu]
    rw [show (10000 : Nat) = 9998 + 1 + 1 from rfl, run_equalIn_struct w _ t _ _ (by rw [hf]; exact hu) f3, hf]
    exact eqFields_ints 9998 _ _ w fs.toList 0 us vs2 f1 (by rw [h1, f2]) (by rw [h2, f2]) (by simp) (by simp)
  · rename_i k e hu
    simp only [Bool.and_eq_true, beq_iff_eq] at h
    obtain ⟨⟨⟨f1, f2⟩, f3⟩, f4⟩ := h
    obtain ⟨i, hi⟩ := Option.isSome_iff_exists.1 f4
    rw [show (10000 : Nat) = 9998 + 1 + 1 from rfl, run_equalIn_array w _ _ _ hu hi, f2, f3, List.range_eq_range']
    exact eqItems_ints 9998 f1 _ _ w n 0 us vs2 h1 h2 (by simp) (by simp)
  · cases h
theorem eq_guard {t n : Nat} (h : eqOK P t n = true) (op : BinOp) (x y : Operand) (xs ys : Array Value) (w : World) : (eqGuard op t x y (.agg xs) (.agg ys)).run P w = .ok () w := by
  unfold eqOK at h
  simp only [Bool.and_eq_true, Bool.not_eq_true'] at h
  exact run_eqGuard_agg w op t x y xs ys h.1
def litI (a : Int) : AV := lt (.int .i64 a)
theorem ra_ints {n : Nat} {G : Gh} {us : List Int} {v : Value} (h : RA n G (.agg (us.map fun a => lt (.int .i64 a))) v) : v = .agg (us.map (Value.int .i64)).toArray := by
  cases h with
  | agg _ vs h1 h2 h3 =>
    congr 2
    refine List.ext_getElem? fun j => ?_
    rw [List.length_map] at h1
    rcases Nat.lt_or_ge j vs.length with hj | hj
    · have hj' : j < us.length := by omega
      have := (h2 j (lt (.int .i64 us[j])) vs[j] (by rw [List.getElem?_map, List.getElem?_eq_getElem hj']; rfl) (List.getElem?_eq_getElem hj)).lit_inv
      rw [List.getElem?_eq_getElem hj, List.getElem?_map, List.getElem?_eq_getElem hj', this]; rfl
    · rw [List.getElem?_eq_none hj, List.getElem?_eq_none (by rw [List.length_map]; omega)]
def eqRes (op : BinOp) (b : Bool) : Bool := match op with | .eql => b | _ => !b
theorem eqA_run {t n : Nat} (h : eqOK P t n = true) {us vs2 : List Int} (h1 : us.length = n) (h2 : vs2.length = n) {op : BinOp} (hop : op = .eql ∨ op = .neq) {x y : Operand} {d : Option Tmp} {t2 ty : TypeId} {pos : String} {after : Array Edge} {g : Option (Nat × Bool)} {ρ : Operand → Value} (hx : ρ x = .agg (us.map (Value.int .i64)).toArray) (hy : ρ y = .agg (vs2.map (Value.int .i64)).toArray) (w : World) :
    (execOp ρ ⟨d, .binOp op t x y t2, ty, pos, after, g⟩).run P w = .ok (.value (.bool (eqRes op (us == vs2)))) w := by
  rcases hop with rfl | rfl
  · simp [execOp, hx, hy, eq_guard h, run_eql_struct, eq_ints h h1 h2, Result.andThen, eqRes]
  · simp [execOp, hx, hy, eq_guard h, run_neq_struct, eq_ints h h1 h2, Result.andThen, eqRes]
variable {m : Nat} {Q : Exit → XS → Prop} {fr : List AV} {H : AHeap} {M : MS} {l : List Oper} {d : Option Tmp} {t2 ty : TypeId} {pos : String} {after : Array Edge} {g : Option (Nat × Bool)}
theorem XRes_eqA {t n : Nat} {op : BinOp} {x y : Operand} {us vs2 : List Int} (hw : wantedS fr ⟨d, .binOp op t x y t2, ty, pos, after, g⟩ = some true) (hop : op = .eql ∨ op = .neq) (hx : AS.ev ⟨fr, H⟩ x = .agg (us.map fun a => lt (.int .i64 a))) (hy : AS.ev ⟨fr, H⟩ y = .agg (vs2.map fun a => lt (.int .i64 a))) (h1 : us.length = n) (h2 : vs2.length = n) (h : eqOK P t n = true)
    (k : XRes P m Q (l, ⟨putL fr d (lt (.bool (eqRes op (us == vs2)))), H, M⟩)) : XRes P m Q (⟨d, .binOp op t x y t2, ty, pos, after, g⟩ :: l, ⟨fr, H, M⟩) :=
  XRes_gives hw (fun G a w hr => ⟨G, _, w, .inl (eqA_run h h1 h2 hop (ra_ints (hx ▸ hr.ev x)) (ra_ints (hy ▸ hr.ev y)) w), Gh.le.refl _ _, Nat.le_refl _, hr.inv, .iv _ _ (.lit _)⟩) k
theorem ADF_eqA {H0 : AHeap} {K : List AV → AHeap → Prop} {t n : Nat} {op : BinOp} {x y : Operand} {us vs2 : List Int} (hw : wantedS fr ⟨d, .binOp op t x y t2, ty, pos, after, g⟩ = some true) (hop : op = .eql ∨ op = .neq) (hx : AS.ev ⟨fr, H0⟩ x = .agg (us.map fun a => lt (.int .i64 a))) (hy : AS.ev ⟨fr, H0⟩ y = .agg (vs2.map fun a => lt (.int .i64 a))) (h1 : us.length = n) (h2 : vs2.length = n) (h : eqOK P t n = true)
    (k : ADF P H0 K (l, putL fr d (lt (.bool (eqRes op (us == vs2)))))) : ADF P H0 K (⟨d, .binOp op t x y t2, ty, pos, after, g⟩ :: l, fr) := fun N hn =>
  ⟨_, H0, none, .free _ (wanted_iff hn hw) fun H => (by
    intro Q' G a w K' hi hl hk
    have ex : AS.ev ⟨fr, H⟩ x = AS.ev ⟨fr, H0⟩ x := by cases x <;> rfl
    have ey : AS.ev ⟨fr, H⟩ y = AS.ev ⟨fr, H0⟩ y := by cases y <;> rfl
    have rx := hl.ev (H := H) (x := x) (by simp [Op.operands])
    have ry := hl.ev (H := H) (x := y) (by simp [Op.operands])
    rw [ex, hx] at rx
    rw [ey, hy] at ry
    unfold Oper.wp
    rw [eqA_run h h1 h2 hop (ra_ints rx) (ra_ints ry) w]
    exact hk G _ w (Gh.le.refl _ _) (Nat.le_refl _) hi (.iv _ _ (.lit _))), k N (by show (putL _ _ _).length ≤ N; rw [putL_len]; exact hn)⟩
end
end Go.Proofs.YtdaenbgjafalcaaDoor
namespace Go.Proofs.YtdaenbgjafalcaaDoor
open Go.RowKit
set_option linter.unusedVariables false
set_option linter.unusedSimpArgs false
section
variable {P : Program}
def isNilV : Value → Option Bool
  | .nilIface => some true
  | .iface _ _ => some false
  | _ => none
theorem nil_run {t : TypeId} (h : P.underlying t = some (.interface (P.methodsAt t))) {u : Value} {b : Bool} (hu : isNilV u = some b) {op : BinOp} (hop : op = .eql ∨ op = .neq) {x : Operand} {d : Option Tmp} {t2 ty : TypeId} {pos : String} {after : Array Edge} {g : Option (Nat × Bool)} {ρ : Operand → Value} (hx : ρ x = u) (hy : ρ (.const .nilIface) = .nilIface) (w : World) :
    (execOp ρ ⟨d, .binOp op t x (.const .nilIface) t2, ty, pos, after, g⟩).run P w = .ok (.value (.bool (eqRes op b))) w := by
  unfold isNilV at hu
  split at hu <;> simp only [Option.some.injEq, reduceCtorEq] at hu <;> subst hu
  · rcases hop with rfl | rfl
    · simp [execOp, hx, hy, eqGuard, binOp, run_equal_nil_nil w t h, Result.andThen, eqRes]
    · simp [execOp, hx, hy, eqGuard, binOp, run_equal_nil_nil w t h, Result.andThen, eqRes]
  · rename_i tt v
    rcases hop with rfl | rfl
    · simp [execOp, hx, hy, eqGuard, binOp, run_equal_held_nil w t tt v h, Result.andThen, eqRes]
    · simp [execOp, hx, hy, eqGuard, binOp, run_equal_held_nil w t tt v h, Result.andThen, eqRes]
variable {m : Nat} {Q : Exit → XS → Prop} {fr : List AV} {H : AHeap} {M : MS} {l : List Oper} {d : Option Tmp} {t2 ty : TypeId} {pos : String} {after : Array Edge} {g : Option (Nat × Bool)}
theorem XRes_nilI {t : TypeId} {op : BinOp} {x : Operand} {u : Value} {b : Bool} (hw : wantedS fr ⟨d, .binOp op t x (.const .nilIface) t2, ty, pos, after, g⟩ = some true) (hop : op = .eql ∨ op = .neq) (hx : AS.ev ⟨fr, H⟩ x = lt u) (hu : isNilV u = some b) (h : P.underlying t = some (.interface (P.methodsAt t)))
    (k : XRes P m Q (l, ⟨putL fr d (lt (.bool (eqRes op b))), H, M⟩)) : XRes P m Q (⟨d, .binOp op t x (.const .nilIface) t2, ty, pos, after, g⟩ :: l, ⟨fr, H, M⟩) :=
  XRes_gives hw (fun G a w hr => ⟨G, _, w, .inl (nil_run h hu hop (by have := hr.ev x; rw [hx] at this; exact this.lit_inv) (by have := hr.ev (.const .nilIface); exact RA.lit_inv this) w), Gh.le.refl _ _, Nat.le_refl _, hr.inv, .iv _ _ (.lit _)⟩) k
end
end Go.Proofs.YtdaenbgjafalcaaDoor
