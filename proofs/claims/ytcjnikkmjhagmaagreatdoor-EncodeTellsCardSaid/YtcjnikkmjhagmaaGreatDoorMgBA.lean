import Derived.Test.YtcjnikkmjhagmaaGreatDoorMgAV
import Derived.Test.YtcjnikkmjhagmaaGreatDoorMgAQ
import Derived.Test.YtcjnikkmjhagmaaGreatDoorMgAM
import Derived.Test.YtcjnikkmjhagmaaGreatDoorMgAZ
namespace Go.Proofs.YtcjnikkmjhagmaaGreatDoor
open Go.RowKit
set_option linter.unusedVariables false
set_option linter.unusedSimpArgs false
section
variable {P : Program} {tt : TT} {m : Nat} {Q : Exit → XS → Prop} {fr : List AV} {H : AHeap} {M : MS} {l : List Oper}
theorem RI.congr {fz : Nat → Option Obj} {get get' : Nat → IV} {len sz : Nat} {v : Value} (h : RI fz (.sl get len sz) v) (he : ∀ j, j < len * sz → get j = get' j) : RI fz (.sl get' len sz) v := by
  cases h with
  | nil _ _ cap hc => exact .nil _ _ cap hc
  | empty _ _ a cap hc => exact .empty _ _ a cap hc
  | sl _ _ _ b off cap cs t fr vs h1 h2 h3 h4 h5 => exact .sl _ _ _ b off cap cs t fr vs h1 h2 (fun j hj => by rw [← he j hj]; exact h3 j hj) h4 h5
theorem RA.congr {n : Nat} {G : Gh} {get get' : Nat → IV} {len sz : Nat} {v : Value} (h : RA n G (.iv (.sl get len sz)) v) (he : ∀ j, j < len * sz → get j = get' j) : RA n G (.iv (.sl get' len sz)) v := by
  cases h with
  | iv _ _ hr => exact .iv _ _ (hr.congr he)
theorem SF.args {f : FuncId} {as1 as2 : List AV} {K : AV → AHeap → Prop} (h : SF P f as2 H K) (ha : ∀ G vs, RL H.length G as1 vs → RL H.length G as2 vs) : SF P f as1 H K :=
  ⟨h.callable, fun G w vs hi hr => h.calls G w vs hi (ha G vs hr)⟩
theorem ra_nil {n : Nat} {G : Gh} {v : Value} {get : Nat → IV} {sz : Nat} (h : RA n G (lt (.slice none 0 0)) v) : RA n G (.iv (.sl get 0 sz)) v := by
  have := h.lit_inv; subst this; exact .iv _ _ (.nil _ _ 0 (Nat.zero_le _))
theorem rl_nil2 {n : Nat} {G : Gh} {x : AV} {get : Nat → IV} {sz : Nat} {vs : List Value} (h : RL n G [x, lt (.slice none 0 0)] vs) : RL n G [x, .iv (.sl get 0 sz)] vs := by
  obtain ⟨v, us, rfl, h1, h2⟩ := h.uncons
  obtain ⟨v2, us2, rfl, h3, h4⟩ := h2.uncons
  exact RL.cons h1 (RL.cons (ra_nil h3) h4)
def intOf : AV → Int
  | .iv (.lit (.int _ x)) => x
  | _ => 0
theorem abuildSlice_at {t n : Nat} {ps : List (Nat × AV)} {x : AV} {obj : AObj} (h : abuildSlice tt [] t n ps = some (x, [some obj])) : ∃ len sz, x = .osl 0 0 len sz ∧ ∀ H, abuildSlice tt H t n ps = some (.osl H.length 0 len sz, H ++ [some obj]) := by
  unfold abuildSlice at h ⊢
  split at h
  · rename_i e _ _ _ ht
    split at h
    · rename_i r hr
      split at h
      · rename_i hc
        split at h
        · rename_i cs hcs
          split at h
          · rename_i h1
            simp only [Option.some.injEq, Prod.mk.injEq, List.nil_append, List.cons.injEq, and_true, List.length_nil] at h
            obtain ⟨rfl, rfl⟩ := h
            exact ⟨_, _, rfl, fun H => by simp only [ht, hr, if_pos hc, hcs, if_pos h1]⟩
          · cases h
        · cases h
      · cases h
    · cases h
  · cases h
theorem XRes_litF (hT : TyOK P tt) {d : Option Tmp} {t n : Nat} {ps : Array (Nat × Operand)} {ty : TypeId} {pos : String} {after : Array Edge} {g : Option (Nat × Bool)} (hw : wantedS fr ⟨d, .buildSlice t n ps, ty, pos, after, g⟩ = some true)
    {len sz : Nat} {e : TypeId} {cs : List AV} (ha : abuildSlice tt [] t n (ps.toList.map fun p => (p.1, AS.ev ⟨fr, H⟩ p.2)) = some (.osl 0 0 len sz, [some ⟨e, cs⟩])) (hz : sz ≠ 0) (hl : (cs.map intOf).length = len * sz) (hc : cs = (cs.map intOf).map lint)
    (h : XRes P m Q (l, ⟨putL fr d (.iv (iFlat (cs.map intOf) len sz)), H, M⟩)) : XRes P m Q (⟨d, .buildSlice t n ps, ty, pos, after, g⟩ :: l, ⟨fr, H, M⟩) := by
  obtain ⟨len', sz', e1, e2⟩ := abuildSlice_at ha
  cases e1
  refine XRes_lit hT (iFlat (cs.map intOf) len sz) hw (x := .osl H.length 0 len sz) (obj := ⟨e, cs⟩) (by simp only [aop]; exact e2 H) ?_ h
  exact .osl _ 0 len sz _ ⟨e, cs⟩ (fun j => lt (.int .i64 ((cs.map intOf).getD j 0))) hz (only_mk (by simp) (by simp)) (fun j hj => by rw [Nat.zero_add]; exact (congrArg (fun z : List AV => z[j]?) hc).trans (lint_at (xs := cs.map intOf) (by rw [hl]; exact hj))) fun j _ => .iv _
theorem snap_litF {H : AHeap} {e : TypeId} {cs : List AV} {len sz : Nat} (hz : sz ≠ 0) (hl : (cs.map intOf).length = len * sz) (hc : cs = (cs.map intOf).map lint) : SnapC (onlyH [H.length] (H ++ [some ⟨e, cs⟩])) (.osl H.length 0 len sz) (iFlat (cs.map intOf) len sz) :=
  .osl _ 0 len sz _ ⟨e, cs⟩ (fun j => lt (.int .i64 ((cs.map intOf).getD j 0))) hz (only_mk (by simp) (by simp)) (fun j hj => by rw [Nat.zero_add]; exact (congrArg (fun z : List AV => z[j]?) hc).trans (lint_at (xs := cs.map intOf) (by rw [hl]; exact hj))) fun j _ => .iv _
theorem XRes_eqB {t n : Nat} {op : BinOp} {x y : Operand} {d : Option Tmp} {t2 ty : TypeId} {pos : String} {after : Array Edge} {g : Option (Nat × Bool)} {us vs2 : List Int} (b : Bool) (hw : wantedS fr ⟨d, .binOp op t x y t2, ty, pos, after, g⟩ = some true) (hop : op = .eql ∨ op = .neq) (hx : AS.ev ⟨fr, H⟩ x = .agg (us.map fun a => lt (.int .i64 a))) (hy : AS.ev ⟨fr, H⟩ y = .agg (vs2.map fun a => lt (.int .i64 a))) (h1 : us.length = n) (h2 : vs2.length = n) (h : eqOK P t n = true) (hb : eqRes op (us == vs2) = b)
    (k : XRes P m Q (l, ⟨putL fr d (lt (.bool b)), H, M⟩)) : XRes P m Q (⟨d, .binOp op t x y t2, ty, pos, after, g⟩ :: l, ⟨fr, H, M⟩) := XRes_eqA hw hop hx hy h1 h2 h (by rw [hb]; exact k)
end
end Go.Proofs.YtcjnikkmjhagmaaGreatDoor
namespace Go.Proofs.YtcjnikkmjhagmaaGreatDoor
open Go.RowKit
set_option linter.unusedVariables false
set_option linter.unusedSimpArgs false
section
variable {P : Program} {tt : TT} {m : Nat} {Q : Exit → XS → Prop} {fr : List AV} {H : AHeap} {M : MS} {l : List Oper} {o : Oper} {n0 : Nat} {us : List Nat} {H0 Hc : AHeap} {K : List AV → AHeap → Prop} {al : List Kd}
theorem ADR_litI (hT : TyOK P tt) (y : IV) (hw : wantedS fr o = some true) (ha : ∀ H, ∃ x obj, aop tt ⟨fr, H⟩ o = some (x, H ++ [some obj]) ∧ SnapC (onlyH [H.length] (H ++ [some obj])) x y) (h : ADR P n0 us H0 K Hc (l, al, putL fr o.dst (.iv y))) : ADR P n0 us H0 K Hc (o :: l, .free :: al, fr) := fun n hn =>
  ⟨.iv y, Hc, none, .free _ (wanted_iff hn hw) fun H => by
    obtain ⟨x, obj, h1, h2⟩ := ha H
    exact does_lit hT h1 h2, h n (by show (putL _ _ _).length ≤ n; rw [putL_len]; exact hn)⟩
theorem ADR_litF (hT : TyOK P tt) {d : Option Tmp} {t n : Nat} {ps : Array (Nat × Operand)} {ty : TypeId} {pos : String} {after : Array Edge} {g : Option (Nat × Bool)} (hw : wantedS fr ⟨d, .buildSlice t n ps, ty, pos, after, g⟩ = some true)
    {len sz : Nat} {e : TypeId} {cs : List AV} (ha : abuildSlice tt [] t n (ps.toList.map fun p => (p.1, AS.ev ⟨fr, H0⟩ p.2)) = some (.osl 0 0 len sz, [some ⟨e, cs⟩])) (hz : sz ≠ 0) (hl : (cs.map intOf).length = len * sz) (hc : cs = (cs.map intOf).map lint)
    (h : ADR P n0 us H0 K Hc (l, al, putL fr d (.iv (iFlat (cs.map intOf) len sz)))) : ADR P n0 us H0 K Hc (⟨d, .buildSlice t n ps, ty, pos, after, g⟩ :: l, .free :: al, fr) := by
  obtain ⟨len', sz', e1, e2⟩ := abuildSlice_at ha
  cases e1
  refine ADR_litI hT (iFlat (cs.map intOf) len sz) hw (fun H => ⟨.osl H.length 0 len sz, ⟨e, cs⟩, ?_, snap_litF hz hl hc⟩) h
  have e : (ps.toList.map fun p => (p.1, AS.ev ⟨fr, H⟩ p.2)) = ps.toList.map fun p => (p.1, AS.ev ⟨fr, H0⟩ p.2) := List.map_congr_left fun y _ => by obtain ⟨a, b⟩ := y; cases b <;> rfl
  simp only [aop]
  rw [e]; exact e2 H
def kdOfL (c : Bool) (op : Op) : Kd := match op with
  | .load _ _ => .free
  | .buildSlice _ n _ => if n = 0 then .grow else .free
  | op => kdOf c op
def alL (ops : List Oper) : List Kd := ops.map fun o => kdOfL (ops.any fun o => isApp o.op) o.op
theorem AX_drawL (hT : TyOK P tt) (hmx : P.follows .mixedOrders = true) {id : Nat} {ops : List Oper} (hord : ordOK ops.toArray ops.length (alL ops) = true)
    (h : ∀ (K : List AV → AHeap → Prop), (∀ F H', Q .normal ⟨F, H', M⟩ → K F H') → ADR P H.length [] H K H (ops.map (strip (dsts ops)), alL ops, fr)) : AX P m (.region id ops.toArray true) Q ⟨fr, H, M⟩ :=
  AX_drawS hT hmx (alL ops) ops.length 0 hord fun K hK => by
    rw [List.take_length]
    exact h K fun F H' hq => hK F H' (by rw [List.drop_length]; exact XRes_nil hq)
end
theorem rep_lintI (n : Nat) : List.replicate n (AV.iv (IV.lit (Value.int IntKind.i64 0))) = (List.replicate n (0 : Int)).map lint := by rw [List.map_replicate]; rfl
end Go.Proofs.YtcjnikkmjhagmaaGreatDoor
namespace Go.Proofs.YtcjnikkmjhagmaaGreatDoor
open Go.RowKit
set_option linter.unusedVariables false
set_option linter.unusedSimpArgs false
def mvE (o : Ob) (x : Op5) (st : Int) : Int := if mvMay o x st = true then mvTo o x st else -1
def mvEach (o : Ob) (x : Op5) (k : Nat) : List Int := (List.range k).map fun st : Nat => mvE o x st
theorem mvEach_len (o : Ob) (x : Op5) (k : Nat) : (mvEach o x k).length = k := by unfold mvEach; simp
theorem mvEach_at {o : Ob} {x : Op5} {k st : Nat} (h : st < k) : (mvEach o x k).getD st 0 = mvE o x st := by
  unfold mvEach; rw [List.getD_eq_getElem?_getD, List.getElem?_map, List.getElem?_range h]; rfl
def mvHalf (o : Ob) (x : Op5) (n k : Nat) : List Int := (List.range n).map fun st : Nat => if st < k then mvE o x st else 0
theorem mvHalf_len (o : Ob) (x : Op5) (n k : Nat) : (mvHalf o x n k).length = n := by unfold mvHalf; simp
theorem mvHalf_zero (o : Ob) (x : Op5) (n : Nat) : mvHalf o x n 0 = List.replicate n 0 := by
  apply List.ext_getElem?
  intro i
  unfold mvHalf
  rw [List.getElem?_map, List.getElem?_replicate]
  by_cases hi : i < n
  · rw [List.getElem?_range hi, if_pos hi, Option.map_some, if_neg (by omega)]
  · rw [List.getElem?_eq_none (by simpa using hi), if_neg hi]; rfl
theorem mvHalf_set (o : Ob) (x : Op5) {n k : Nat} (h : k < n) : (mvHalf o x n k).set k (mvE o x k) = mvHalf o x n (k + 1) := by
  apply List.ext_getElem?
  intro i
  rw [List.getElem?_set, mvHalf_len]
  unfold mvHalf
  rw [List.getElem?_map, List.getElem?_map]
  by_cases hi : i < n
  · rw [List.getElem?_range hi, Option.map_some, Option.map_some]
    by_cases hk : k = i
    · subst hk; rw [if_pos rfl, if_pos h, if_pos (by omega)]
    · rw [if_neg hk]
      by_cases h1 : i < k
      · rw [if_pos h1, if_pos (by omega)]
      · rw [if_neg h1, if_neg (by omega)]
  · rw [List.getElem?_eq_none (by simpa using hi)]
    by_cases hk : k = i
    · omega
    · rw [if_neg hk]; rfl
theorem mvHalf_full (o : Ob) (x : Op5) (n : Nat) : mvHalf o x n n = mvEach o x n := by
  unfold mvHalf mvEach
  exact List.map_congr_left fun i hi => by rw [if_pos (List.mem_range.1 hi)]
set_option maxRecDepth 100000 in
set_option maxHeartbeats 1000000 in
theorem pf_each (o : Ob) (x : Op5) (n : Nat) (hr : o.R.length ≤ 100000) (hS : o.S = n) (hn : n ≤ 32) : PF Tryz.prog 80 [obA o, opA x] fun r H' => r = .iv (iInts (mvEach o x n)) ∧ H' = [] := by
  refine SF.frozen ?_
  have hs1 := trivial
  obtain ⟨S0, K0, I0, R0⟩ := o
  simp only at hS
  subst hS
  (refine SF_of_bodyX (aload tt) (aload_ok tyOK) Tryz.func80 rfl (by kernel_rfl) ?_; simp only [Tryz.ntmps80, List.length_cons, List.length_nil, Nat.reduceAdd, Nat.reduceSub, List.replicate_succ, List.replicate_zero, List.cons_append, List.nil_append])
  (repeat (first | (first | (with_reducible first | refine AX_block ?_ | refine AX_skip ?_ | refine AX_exit ?_ | refine AX_ret ?_ | refine AX_ift ?_ | refine AX_iff ?_ | refine AX_seq_k (fun K hK => ?_) | refine ContX.use (by assumption) ?_) | simp only [thenX, inBlockX, if_true, if_false, reduceCtorEq]) | (first | ((with_reducible refine XOP tyOK ?_); simp (disch := omega) only [go_sem , iOps, iFlat, hs1, rep_lintI, mvHalf_len]; (with_reducible refine XRes_id ?_)) | (with_reducible refine XSK ?_)) | ((with_reducible refine XRes_nil ?_); refine hK _ ?_; clear hK K) | ((with_reducible refine AX_reg0 fun K hK => ?_); simp only [go_sem]) | ((refine XRes_slot (by rfl) rfl (PF.tells (idsA rfl) (fun _ => rfl) (pf_tmay ⟨↑n, K0, I0, R0⟩ x _ hr)) ?_); (rintro r H' ⟨rfl, rfl⟩); (simp only [putL, List.set_cons_succ, List.set_cons_zero]))))
  rw [← mvHalf_zero ⟨↑n, K0, I0, R0⟩ x n]
  (refine AWH (σ := Nat) [18, 19, 7, 21, 22, 23, 24, 20, 25, 26, 8, 9, 27, 28, 29, 30, 31, 32, 33] (fun k => [(17, lint k)]) (fun k => [some ⟨24, [lt (.int .i64 n), lt (.int .i64 K0), lt (.int .i64 I0), .iv (iRws R0)]⟩, some ⟨56, [lt (.int .i64 x.p), lt (.int .i64 x.k), lt (.int .i64 x.s), lt (.int .i64 x.e), lt (.int .i64 x.r)]⟩, some ⟨3, (mvHalf ⟨↑n, K0, I0, R0⟩ x n k).map lint⟩]) (fun k => []) (fun k => k ≤ n) (fun k => n - k) 0 (by first | exact Nat.zero_le _) ?_; rintro k d fr hfr hk; simp only [updS, deadS, List.set_cons_succ, List.set_cons_zero, lint] at hfr; subst hfr; (try dsimp only))
  by_cases hlt : k < n
  · (repeat' (first | (first | (with_reducible first | refine AX_block ?_ | refine AX_skip ?_ | refine AX_exit ?_ | refine AX_ret ?_ | refine AX_ift ?_ | refine AX_iff ?_ | refine AX_seq_k (fun K hK => ?_) | refine ContX.use (by assumption) ?_) | simp only [thenX, inBlockX, if_true, if_false, reduceCtorEq]) | (first | ((with_reducible refine XOP tyOK ?_); simp (disch := omega) only [go_sem , iOps, iFlat, hs1, rep_lintI, mvHalf_len]; (with_reducible refine XRes_id ?_)) | (with_reducible refine XSK ?_)) | ((with_reducible refine XRes_nil ?_); refine hK _ ?_; clear hK K) | ((with_reducible refine AX_reg0 fun K hK => ?_); simp only [go_sem]) | ((refine XRes_slot (by rfl) rfl (PF.tells (idsA rfl) (fun _ => rfl) (pf_tmay ⟨↑n, K0, I0, R0⟩ x _ hr)) ?_); (rintro r H' ⟨rfl, rfl⟩); (simp only [putL, List.set_cons_succ, List.set_cons_zero])) | ((refine XRes_splitG (by rfl) (fun hc => ?_) (fun hc => ?_)) <;> (try simp only [eqRes, List.cons_beq_cons, Bool.and_eq_true, Bool.not_eq_true, Bool.and_eq_false_iff, decide_eq_true_eq, decide_eq_false_iff_not, bne_iff_ne, beq_iff_eq, bne_eq_false_iff_eq, beq_eq_false_iff_ne, Bool.not_eq_true', Bool.not_eq_false', ne_eq, Int.not_lt, Int.not_le, Decidable.not_not] at hc) <;> simp only [List.set_cons_succ, List.set_cons_zero]) | (first | ((with_reducible refine AX_if_t ?_ ?_); focus (simp (disch := omega) only [go_sem , iOps, iFlat, hs1, rep_lintI, mvHalf_len]; done)) | ((with_reducible refine AX_if_f ?_ ?_); focus (simp (disch := omega) only [go_sem , iOps, iFlat, hs1, rep_lintI, mvHalf_len]; done)) | (refine AX_cond _ (by rfl) (fun hc => ?_) (fun hc => ?_) <;> (try simp only [eqRes, List.cons_beq_cons, Bool.and_eq_true, Bool.not_eq_true, Bool.and_eq_false_iff, decide_eq_true_eq, decide_eq_false_iff_not, bne_iff_ne, beq_iff_eq, bne_eq_false_iff_eq, beq_eq_false_iff_ne, Bool.not_eq_true', Bool.not_eq_false', ne_eq, Int.not_lt, Int.not_le, Decidable.not_not] at hc)))))
    · have e : mvHalf ⟨↑n, K0, I0, R0⟩ x n (k + 1) = (mvHalf ⟨↑n, K0, I0, R0⟩ x n k).set k (-1) := by rw [← mvHalf_set _ _ hlt]; unfold mvE; rw [if_neg (by rw [hc]; decide)]
      exact whx_ren [0, 1, 2] (k + 1) (by omega) (by (first | omega | (dsimp only; omega) | (simp only; omega))) rfl (by decide) (by decide) (by (simp (disch := omega) only [go_sem, lint])) (by (simp (disch := omega) only [go_sem, lint])) (by simp only [e]; (simp (disch := omega) only [go_sem, lint])) (fun d => by (simp (disch := omega) only [go_sem, lint]))
    · have e : mvHalf ⟨↑n, K0, I0, R0⟩ x n (k + 1) = (mvHalf ⟨↑n, K0, I0, R0⟩ x n k).set k (mvTo ⟨↑n, K0, I0, R0⟩ x k) := by rw [← mvHalf_set _ _ hlt]; unfold mvE; rw [if_pos hc]
      exact whx_ren [0, 1, 2] (k + 1) (by omega) (by (first | omega | (dsimp only; omega) | (simp only; omega))) rfl (by decide) (by decide) (by (simp (disch := omega) only [go_sem, lint])) (by (simp (disch := omega) only [go_sem, lint])) (by simp only [e]; (simp (disch := omega) only [go_sem, lint])) (fun d => by (simp (disch := omega) only [go_sem, lint]))
  · have hkk : k = n := by omega
    subst hkk
    rw [mvHalf_full]
    (repeat' (first | (first | (with_reducible first | refine AX_block ?_ | refine AX_skip ?_ | refine AX_exit ?_ | refine AX_ret ?_ | refine AX_ift ?_ | refine AX_iff ?_ | refine AX_seq_k (fun K hK => ?_) | refine ContX.use (by assumption) ?_) | simp only [thenX, inBlockX, if_true, if_false, reduceCtorEq]) | (first | ((with_reducible refine XOP tyOK ?_); simp (disch := omega) only [go_sem , iOps, iFlat, hs1, rep_lintI, mvHalf_len]; (with_reducible refine XRes_id ?_)) | (with_reducible refine XSK ?_)) | ((with_reducible refine XRes_nil ?_); refine hK _ ?_; clear hK K) | ((with_reducible refine AX_reg0 fun K hK => ?_); simp only [go_sem]) | ((refine XRes_slot (by rfl) rfl (PF.tells (idsA rfl) (fun _ => rfl) (pf_tmay ⟨↑n, K0, I0, R0⟩ x _ hr)) ?_); (rintro r H' ⟨rfl, rfl⟩); (simp only [putL, List.set_cons_succ, List.set_cons_zero])) | ((refine XRes_splitG (by rfl) (fun hc => ?_) (fun hc => ?_)) <;> (try simp only [eqRes, List.cons_beq_cons, Bool.and_eq_true, Bool.not_eq_true, Bool.and_eq_false_iff, decide_eq_true_eq, decide_eq_false_iff_not, bne_iff_ne, beq_iff_eq, bne_eq_false_iff_eq, beq_eq_false_iff_ne, Bool.not_eq_true', Bool.not_eq_false', ne_eq, Int.not_lt, Int.not_le, Decidable.not_not] at hc) <;> simp only [List.set_cons_succ, List.set_cons_zero]) | (first | ((with_reducible refine AX_if_t ?_ ?_); focus (simp (disch := omega) only [go_sem , iOps, iFlat, hs1, rep_lintI, mvHalf_len]; done)) | ((with_reducible refine AX_if_f ?_ ?_); focus (simp (disch := omega) only [go_sem , iOps, iFlat, hs1, rep_lintI, mvHalf_len]; done)) | (refine AX_cond _ (by rfl) (fun hc => ?_) (fun hc => ?_) <;> (try simp only [eqRes, List.cons_beq_cons, Bool.and_eq_true, Bool.not_eq_true, Bool.and_eq_false_iff, decide_eq_true_eq, decide_eq_false_iff_not, bne_iff_ne, beq_iff_eq, bne_eq_false_iff_eq, beq_eq_false_iff_ne, Bool.not_eq_true', Bool.not_eq_false', ne_eq, Int.not_lt, Int.not_le, Decidable.not_not] at hc)))))
    (simp only [bodyX]; refine ⟨_, by simp only [aresults, aresult, XS.as, Tryz.results80, aload, go_sem, Option.bind_some]; rfl, ?_⟩)
    exact ⟨_, snap_ints rfl (mvEach_len _ _ _).symm, rfl, trivial⟩
end Go.Proofs.YtcjnikkmjhagmaaGreatDoor
