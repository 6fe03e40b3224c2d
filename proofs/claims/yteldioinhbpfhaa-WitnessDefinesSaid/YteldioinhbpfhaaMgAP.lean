import Derived.Shelf.Small.Wraps
import Derived.Shelf.SlSortCmp.Insertion
import Derived.Test.YteldioinhbpfhaaMgAA
import Derived.Test.YteldioinhbpfhaaChecked
import Derived.BigGuardPart
import Derived.Handy
import Derived.Lib.Hide
import Derived.StillTactics
import Derived.Deep.QuietTactic
import Derived.BigQuiet
import Derived.Deep.RegionHeld3
import Derived.Test.YteldioinhbpfhaaMgAL
import Derived.Test.YteldioinhbpfhaaMgAN
namespace Go.Proofs.Yteldioinhbpfhaa
open Go.RowKit Go.Shelf Go.Lib Go.Sort
set_option linter.unusedVariables false
set_option linter.unusedSimpArgs false
def compareW_ren : Go.Shelf.Ren := ⟨fun | 122 => 24 | 215 => 35 | n => n, fun | 3 => 3 | 4 => 4 | n => n, fun | n => n⟩
theorem compareW : Go.Proofs.Lays.n122 Try.prog compareW_ren := {
  mixed := by kernel_rfl
  f122 := Try.func24.trans (congrArg some (by kernel_rfl))
  f215 := Try.func35.trans (congrArg some (by kernel_rfl))
  t3 := Try.underlying3
  a3 := Try.isAgg3
  z3 := Try.sizeOf3
  v3 := Try.zeroValue3
  t4 := Try.underlying4
  a4 := Try.isAgg4
  z4 := Try.sizeOf4
  v4 := Try.zeroValue4 }
theorem cmp_intsW (x y : Int) (w : World) : Calls Try.prog 24 #[.int .i64 x, .int .i64 y] w fun e w' => e = .returned (.int .i64 (Lib.compareInt x y)) ∧ w' = w := Any.cmp_Compare_int compareW x y w
set_option maxRecDepth 100000 in
set_option maxHeartbeats 1000000 in
theorem wi_cmp (W : World) (i k len cap bb boff a off : Nat) (ei ek : Int) (hi : i < len) (hk : k < len) (hl : len ≤ 100000)
    (hbox : W.cell? ⟨bb, boff, none⟩ = some (.slice (some ⟨a, off, none⟩) len cap))
    (ci : W.cell? ⟨a, off + i * 5 + 3, none⟩ = some (.int .i64 ei)) (ck : W.cell? ⟨a, off + k * 5 + 3, none⟩ = some (.int .i64 ek)) :
    Calls Try.prog 23 #[.int .i64 i, .int .i64 k, .pointer (some ⟨bb, boff, none⟩)] W fun e w' => e = .returned (.int .i64 (Lib.compareInt ei ek)) ∧ ∃ q, w' = W.drewN q := by
  generalize hr : Lib.compareInt ei ek = r
  have HRR := Lib.hid hr
  clear hr
  go_enter Try.func23, Try.ntmps23
  go_wp2_with fail
  go_quiet ((go_at_call 24; exact Calls.quiet_of_same (cmp_intsW _ _ _)))
  all_goals
    go_wp2_with fail
    go_ret
    exact ⟨ret_int HRR.out, ⟨_, rfl⟩⟩
end Go.Proofs.Yteldioinhbpfhaa
namespace Go.Proofs.Yteldioinhbpfhaa
open Go.RowKit
set_option linter.unusedVariables false
set_option linter.unusedSimpArgs false
structure SX (P : Program) (f : FuncId) (args : List AV) (H : AHeap) (M : MS) (Q : AV → AHeap → MS → Prop) : Prop where
  callable : Callable P f
  calls : ∀ (K : Nat → Option Obj) (G : Gh) (w : World) (vs : List Value), (∀ b x, K b = some x → G.kp b = some x) → MOK K G M → Inv G H w → RL H.length G args vs → Calls P f vs.toArray w fun e w' => ∃ v r G' H' M', e = .returned v ∧ Gh.leb H.length { G with kp := K } G' ∧ MOK K G' M' ∧ H.length ≤ H'.length ∧ Inv G' H' w' ∧ RA H'.length G' r v ∧ Q r H' M'
theorem SX.mono {P : Program} {f : FuncId} {args : List AV} {H : AHeap} {M : MS} {Q Q' : AV → AHeap → MS → Prop} (h : SX P f args H M Q) (hq : ∀ r H' M', Q r H' M' → Q' r H' M') : SX P f args H M Q' :=
  ⟨h.callable, fun K G w vs hk hm hi hr => (h.calls K G w vs hk hm hi hr).mono fun e w' ⟨v, r, G', H', M', h1, h2, h3, h4, h5, h6, h7⟩ => ⟨v, r, G', H', M', h1, h2, h3, h4, h5, h6, hq _ _ _ h7⟩⟩
section
variable {P : Program} {tt : TT} {m : Nat} {Q : Exit → XS → Prop} {fr : List AV} {H : AHeap} {M : MS} {l : List Oper} {o : Oper}
def bodyXM (P : Program) (fn : Func) (load : AHeap → TypeId → AV → Option AV) (Q : AV → AHeap → MS → Prop) : Exit → XS → Prop
  | .normal, s | .ret, s => ∃ r, aresults P fn s.as (load s.H) = some r ∧ Q r s.H s.M
  | _, _ => False
theorem SX_of_body {f : FuncId} {fn : Func} {c : Code} {args : List AV} {H : AHeap} {M : MS} {Q : AV → AHeap → MS → Prop} (load : AHeap → TypeId → AV → Option AV) (hl : ∀ H, LoadOk P H (load H)) (hf : P.funcs[f]? = some fn) (hb : fn.body = some c) (hname : (fn.name == "runtime.NumGoroutine") = false)
    (h : AX P H.length c (bodyXM P fn load Q) ⟨args ++ List.replicate (fn.ntmps - args.length) uD, H, M⟩) : SX P f args H M Q := by
  refine ⟨⟨fn, hf, hname, by rw [hb]; rfl⟩, fun K G w vs hk hm hi hr => ?_⟩
  refine calls_of_wp hf hb ?_
  refine wp_mono (h { G with kp := K } G _ w (Nat.le_refl _) ⟨fun _ _ _ => rfl, fun _ _ _ => rfl, fun _ _ h => h, fun _ _ h => h, fun _ _ h => h, hk, fun b x y _ e => ⟨y, e⟩, rfl, rfl, rfl⟩ hm ⟨rfl, ?_, hi⟩) ?_
  · simp only [Array.toList_append, Array.toList_replicate]
    refine RL.append hr ⟨by simp [hr.1], fun i x v h1 h2 => ?_⟩
    rw [List.getElem?_replicate] at h1 h2
    split at h1 <;> split at h2 <;> simp_all
    subst h1 h2
    exact .iv _ _ (.lit _)
  · rintro e a w' ⟨G', s', hleb, hM', hn, hr', hq⟩
    cases e with
    | normal =>
      obtain ⟨r, h1, h2⟩ := hq
      obtain ⟨v, h3, h4⟩ := aresults_run (hl _) hr' h1
      exact ⟨hr'.defers, v, h3, v, r, G', s'.H, s'.M, rfl, hleb, hM', hn, hr'.inv, h4, h2⟩
    | ret =>
      obtain ⟨r, h1, h2⟩ := hq
      obtain ⟨v, h3, h4⟩ := aresults_run (hl _) hr' h1
      exact ⟨hr'.defers, v, h3, v, r, G', s'.H, s'.M, rfl, hleb, hM', hn, hr'.inv, h4, h2⟩
    | _ => exact hq.elim
theorem SX.of {f : FuncId} {args : List AV} {Q : AV → AHeap → Prop} (h : SF P f args H Q) : SX P f args H M fun r H' M' => Q r H' ∧ M' = M :=
  ⟨h.callable, fun K G w vs hk hm hi hr => (h.calls G w vs hi hr).mono fun e w' ⟨v, r, G', H', h1, h2, h3, h4, h5, h6⟩ =>
    ⟨v, r, G', H', M, h1, ⟨fun o ho hd => h2.mu o hd, fun o ho hd => h2.sz o hd, fun o ho hd => h2.dom o hd, h2.back, h2.fz, fun b x e => h2.kp b x (hk b x e), fun b x y e f => h2.new b x y (hk b x e) f, h2.os, h2.tape, h2.output⟩, hm.leb (h2.leb (Nat.le_refl _)), h3, h4, h5, h6, rfl⟩⟩
theorem leb_call {G0 G G' : Gh} (hm : m ≤ H.length) (hl : Gh.leb m G0 G) (h : Gh.leb H.length { G with kp := G0.kp } G') : Gh.leb m G0 G' :=
  Gh.leb.trans (b := { G with kp := G0.kp }) ⟨hl.mu, hl.sz, hl.dom, hl.back, hl.fz, fun _ _ e => e, hl.new, hl.os, hl.tape, hl.output⟩
    ⟨fun o ho => h.mu o (Nat.lt_of_lt_of_le ho hm), fun o ho => h.sz o (Nat.lt_of_lt_of_le ho hm), fun o ho => h.dom o (Nat.lt_of_lt_of_le ho hm), fun o ho => h.back o (Nat.lt_of_lt_of_le ho hm), h.fz, h.kp, h.new, h.os, h.tape, h.output⟩
theorem RL.kpany {n : Nat} {G : Gh} {kp : Nat → Option Obj} {xs : List AV} {vs : List Value} (h : RL n G xs vs) : RL n { G with kp := kp } xs vs := ⟨h.1, fun i x v e e' => (h.2 i x v e e').kpany⟩
theorem Rst.call {G0 G G' : Gh} {s : AS} {H' : AHeap} {a : Act} {w w' : World} {x : AV} {v : Value} {kp : Nat → Option Obj} (hr : Rst G s a w) (h : Gh.leb s.H.length { G with kp := kp } G') (hn : s.H.length ≤ H'.length) (hi : Inv G' H' w') (hx : RA H'.length G' x v) (d : Option Tmp) : Rst G' ⟨putL s.fr d x, H'⟩ (a.put d v) w' := by
  have hle : Gh.le s.H.length { G with kp := kp } G' := h.le hr.inv.dom
  have hfr : RL H'.length G' s.fr a.tmps.toList := (RL.kpany (kp := kp) hr.fr).mono hle hn
  refine ⟨?_, ?_, hi⟩
  · cases d <;> exact hr.defers
  · cases d with
    | none => exact hfr
    | some d =>
      simp only [putL, Act.put, Array.toList_setIfInBounds]
      exact hfr.set d hx
theorem AX_late {c : Code} {s : XS} (h : AX P m c (fun e s => LeadX m s (Q e)) s) : AX P m c Q s := fun G0 G a w hm hl hM hr =>
  wp_mono (h G0 G a w hm hl hM hr) fun e a w ⟨G', s', h1, h2, h3, h4, h5⟩ => h5 G0 G' a w h3 h1 h2 h4
theorem SF_of_bodyL {f : FuncId} {fn : Func} {c : Code} {args : List AV} {H : AHeap} {Q : AV → AHeap → Prop} (load : AHeap → TypeId → AV → Option AV) (hl : ∀ H, LoadOk P H (load H)) (hf : P.funcs[f]? = some fn) (hb : fn.body = some c) (hname : (fn.name == "runtime.NumGoroutine") = false)
    (h : AX P H.length c (fun e s => LeadX H.length s (bodyX P fn load Q e)) ⟨args ++ List.replicate (fn.ntmps - args.length) uD, H, []⟩) : SF P f args H Q := SF_of_bodyX load hl hf hb hname (AX_late h)
theorem SX_of_bodyL {f : FuncId} {fn : Func} {c : Code} {args : List AV} {H : AHeap} {M : MS} {Q : AV → AHeap → MS → Prop} (load : AHeap → TypeId → AV → Option AV) (hl : ∀ H, LoadOk P H (load H)) (hf : P.funcs[f]? = some fn) (hb : fn.body = some c) (hname : (fn.name == "runtime.NumGoroutine") = false)
    (h : AX P H.length c (fun e s => LeadX H.length s (bodyXM P fn load Q e)) ⟨args ++ List.replicate (fn.ntmps - args.length) uD, H, M⟩) : SX P f args H M Q := SX_of_body load hl hf hb hname (AX_late h)
theorem lead_drop {fr : List AV} {S : XS → Prop} (sel ds : List Nat) (H1 : AHeap) (hs1 : sel.Nodup) (hs2 : sel.all (fun p => decide (m ≤ p)) = true) (hH : okH (named m sel) (H.take m ++ sel.map (atH H)) = true) (hF : okF (named m sel) ds 0 fr = true)
    (hh : selH m sel H = H1) (h : ∀ d : Nat → AV, S ⟨deadS (fr.map (AV.rn (newNo m sel))) d ds, H1, M⟩) : LeadX m ⟨fr, H, M⟩ S :=
  LeadX.of (.ren sel ds hs1 hs2 hH hF fun d => by rw [hh]; exact h _)
theorem XRes_callvX {d : Option Tmp} {fo : Operand} {args : Array Operand} {tys : Array TypeId} {ty : TypeId} {pos : String} {after : Array Edge} {g : Option (Nat × Bool)}
    (hw : wantedS fr ⟨d, .call { callee := .value fo, args := args, argTypes := tys }, ty, pos, after, g⟩ = some true)
    {f : FuncId} {first caps : List AV} (hf : AS.ev ⟨fr, H⟩ fo = .fn f first caps) {K : AV → AHeap → MS → Prop} (hc : SX P f (first ++ args.toList.map (AS.ev ⟨fr, H⟩) ++ caps) H M K)
    (h : ∀ r H' M', K r H' M' → XRes P m Q (l, ⟨putL fr d r, H', M'⟩)) : XRes P m Q (⟨d, .call { callee := .value fo, args := args, argTypes := tys }, ty, pos, after, g⟩ :: l, ⟨fr, H, M⟩) := fun n hn G0 G a w hm hl hM hr => by
  unfold wpList
  rw [if_pos (hr.wanted (ops := idB n) (b := true) (by rw [wantedS_ok hn]; exact hw))]
  refine .inl ?_
  have hfe := hr.ev fo
  rw [hf] at hfe
  generalize hfv : a.eval fo = fv at hfe
  cases hfe with
  | fn _ _ _ vs us h1 h2 h3 h4 =>
    have hargs : RL H.length G (first ++ args.toList.map (AS.ev ⟨fr, H⟩) ++ caps) (vs ++ args.toList.map a.eval ++ us) := RL.append (RL.append ⟨h1, h3⟩ (AS.args hr _)) ⟨h2, h4⟩
    have hrun : (execOp a.eval ⟨d, .call { callee := .value fo, args := args, argTypes := tys }, ty, pos, after, g⟩).run P w = .ok (.enter f (vs ++ args.toList.map a.eval ++ us).toArray) w := by
      have e : (vs ++ args.toList.map a.eval ++ us).toArray = vs.toArray ++ args.map a.eval ++ us.toArray := by
        apply Array.toList_inj.1; simp
      rw [e]
      simp [execOp, resolve, hfv, Deferred.ofValue, invoke, run_enter hc.callable]
    unfold Oper.wp
    rw [hrun]
    refine (hc.calls G0.kp G w _ hl.kp hM hr.inv hargs).mono fun e w' hp => ?_
    obtain ⟨v, r, G', H', M', rfl, hle, hM', hn', hi, hx, hk⟩ := hp
    exact h r H' M' hk n (by show (putL _ _ _).length ≤ n; rw [putL_len]; exact hn) G0 G' _ w' (Nat.le_trans hm hn') (leb_call hm hl hle) hM' (hr.call (G0 := G0) hle hn' hi hx d)
theorem XRes_fnX {d : Option Tmp} {f : FuncId} {args : Array Operand} {tys : Array TypeId} {ty : TypeId} {pos : String} {after : Array Edge} {g : Option (Nat × Bool)}
    (hw : wantedS fr ⟨d, .call { callee := .value (.func f), args := args, argTypes := tys }, ty, pos, after, g⟩ = some true) {K : AV → AHeap → MS → Prop} (hc : SX P f (args.toList.map (AS.ev ⟨fr, H⟩)) H M K)
    (h : ∀ r H' M', K r H' M' → XRes P m Q (l, ⟨putL fr d r, H', M'⟩)) : XRes P m Q (⟨d, .call { callee := .value (.func f), args := args, argTypes := tys }, ty, pos, after, g⟩ :: l, ⟨fr, H, M⟩) :=
  XRes_callvX hw rfl (by simpa using hc) h
theorem XRes_slotX {d : Option Tmp} {t : Tmp} {args : Array Operand} {tys : Array TypeId} {ty : TypeId} {pos : String} {after : Array Edge} {g : Option (Nat × Bool)}
    (hw : wantedS fr ⟨d, .call { callee := .value (.tmp t), args := args, argTypes := tys }, ty, pos, after, g⟩ = some true)
    {f : FuncId} {first caps : List AV} (hf : fr[t]? = some (.fn f first caps)) {K : AV → AHeap → MS → Prop} (hc : SX P f (first ++ args.toList.map (AS.ev ⟨fr, H⟩) ++ caps) H M K)
    (h : ∀ r H' M', K r H' M' → XRes P m Q (l, ⟨putL fr d r, H', M'⟩)) : XRes P m Q (⟨d, .call { callee := .value (.tmp t), args := args, argTypes := tys }, ty, pos, after, g⟩ :: l, ⟨fr, H, M⟩) :=
  XRes_callvX hw (by show fr.getD t uD = _; rw [List.getD_eq_getElem?_getD, hf]; rfl) hc h
end
end Go.Proofs.Yteldioinhbpfhaa
namespace Go.Proofs.Yteldioinhbpfhaa
def pkE1 (o : Ob) (l : List Op5) (st : Int) (F : Int → Bool) (p : Pk) : Int :=
  if ¬ pkIn l p then 2 else if F p.o = true then 21 else if stE o st (pkOp l p).k p.r ≠ 0 then stE o st (pkOp l p).k p.r else if (pkOp l p).e ≠ -1 ∧ (pkOp l p).r ≠ p.r then 40 else 0
theorem pkE1_in {o : Ob} {l : List Op5} {st : Int} {F : Int → Bool} {p : Pk} (h : ¬ pkIn l p) : pkE1 o l st F p = 2 := by unfold pkE1; rw [if_pos h]
theorem pkE1_dup {o : Ob} {l : List Op5} {st : Int} {F : Int → Bool} {p : Pk} (h : pkIn l p) (h1 : F p.o = true) : pkE1 o l st F p = 21 := by unfold pkE1; rw [if_neg (fun h2 => h2 h), if_pos h1]
theorem pkE1_st {o : Ob} {l : List Op5} {st : Int} {F : Int → Bool} {p : Pk} (h : pkIn l p) (h1 : F p.o = false) (h2 : stE o st (pkOp l p).k p.r ≠ 0) : pkE1 o l st F p = stE o st (pkOp l p).k p.r := by unfold pkE1; rw [if_neg (fun h2 => h2 h), if_neg (by rw [h1]; decide), if_pos h2]
theorem pkE1_r {o : Ob} {l : List Op5} {st : Int} {F : Int → Bool} {p : Pk} (h : pkIn l p) (h1 : F p.o = false) (h2 : stE o st (pkOp l p).k p.r = 0) (h3 : (pkOp l p).e ≠ -1 ∧ (pkOp l p).r ≠ p.r) : pkE1 o l st F p = 40 := by unfold pkE1; rw [if_neg (fun h2 => h2 h), if_neg (by rw [h1]; decide), if_neg (fun h => h h2), if_pos h3]
theorem pkE1_ok {o : Ob} {l : List Op5} {st : Int} {F : Int → Bool} {p : Pk} (h : pkIn l p) (h1 : F p.o = false) (h2 : stE o st (pkOp l p).k p.r = 0) (h3 : ¬ ((pkOp l p).e ≠ -1 ∧ (pkOp l p).r ≠ p.r)) : pkE1 o l st F p = 0 := by unfold pkE1; rw [if_neg (fun h2 => h2 h), if_neg (by rw [h1]; decide), if_neg (fun h => h h2), if_neg h3]
theorem pkE_is (o : Ob) (l : List Op5) (st : Int) (ps : List Pk) (i : Nat) : pkE o l st ps i = pkE1 o l (rSt o l st ps i) (fun x => decide (pkDup ps i x)) (pkAt ps i) := by
  unfold pkE pkE1; simp only [decide_eq_true_eq]
end Go.Proofs.Yteldioinhbpfhaa
