import Derived.Test.YtghdacijcnmhlaaDoorMgAL
import Derived.Test.YtghdacijcnmhlaaDoorMgAI
import Derived.Test.YtghdacijcnmhlaaDoorMgAJ
namespace Go.Proofs.YtghdacijcnmhlaaDoor
set_option linter.unusedVariables false
def fb (err : Nat → Int) : Nat → Nat
  | 0 => 0
  | n + 1 => if fb err n < n then fb err n else if err n ≠ 0 then n else n + 1
structure Rw where
  s : Int
  k : Int
  n : Int
  r : Int
def rwAt (xs : List Rw) (i : Nat) : Rw := xs.getD i ⟨0, 0, 0, 0⟩
structure Ob where
  S : Int
  K : Int
  I : Int
  R : List Rw
def obHead (o : Ob) : Prop := 1 ≤ o.S ∧ o.S ≤ 32 ∧ 1 ≤ o.K ∧ o.K ≤ 64 ∧ 0 ≤ o.I ∧ o.I < o.S
instance (o : Ob) : Decidable (obHead o) := by unfold obHead; infer_instance
def rises (a b : Rw) : Prop := a.s < b.s ∨ (a.s = b.s ∧ a.k < b.k)
instance (a b : Rw) : Decidable (rises a b) := by unfold rises; infer_instance
def obErr (o : Ob) (i : Nat) : Int :=
  if ¬ (0 ≤ (rwAt o.R i).s ∧ (rwAt o.R i).s < o.S) ∨ ¬ (0 ≤ (rwAt o.R i).n ∧ (rwAt o.R i).n < o.S) then 30 else if ¬ (0 ≤ (rwAt o.R i).k ∧ (rwAt o.R i).k < o.K) then 31 else if ¬ (0 ≤ (rwAt o.R i).r ∧ (rwAt o.R i).r ≤ 1000000) then 7 else if 0 < i ∧ ¬ rises (rwAt o.R (i - 1)) (rwAt o.R i) then 32 else 0
def obBad (o : Ob) : Nat := fb (obErr o) o.R.length
def obAt (o : Ob) : Int := if obHead o then (obBad o : Int) else -1
def obE (o : Ob) : Int := if obHead o then (if obBad o < o.R.length then obErr o (obBad o) else 0) else 2
def mvAt (o : Ob) (st kd : Int) (i : Nat) : Bool := decide ((rwAt o.R i).s = st ∧ (rwAt o.R i).k = kd)
def mvErr (o : Ob) (st kd : Int) (i : Nat) : Int := if mvAt o st kd i = true then 1 else 0
def mvI (o : Ob) (st kd : Int) : Nat := fb (mvErr o st kd) o.R.length
def mvOk (o : Ob) (st kd : Int) : Bool := decide (mvI o st kd < o.R.length)
def mvN (o : Ob) (st kd : Int) : Int := if mvI o st kd < o.R.length then (rwAt o.R (mvI o st kd)).n else 0
def mvR (o : Ob) (st kd : Int) : Int := if mvI o st kd < o.R.length then (rwAt o.R (mvI o st kd)).r else 0
def stN (o : Ob) (st kd res : Int) : Int := if (0 ≤ st ∧ st < o.S) ∧ mvOk o st kd = true ∧ mvR o st kd = res then mvN o st kd else 0
def stE (o : Ob) (st kd res : Int) : Int := if ¬ (0 ≤ st ∧ st < o.S) then 30 else if mvOk o st kd = true ∧ mvR o st kd = res then 0 else 40
structure Pk where
  o : Int
  r : Int
def pkAt (ps : List Pk) (i : Nat) : Pk := ps.getD i ⟨0, 0⟩
def pkOp (l : List Op5) (p : Pk) : Op5 := oAt l p.o.toNat
def rSt (o : Ob) (l : List Op5) (st : Int) (ps : List Pk) : Nat → Int
  | 0 => st
  | i + 1 => stN o (rSt o l st ps i) (pkOp l (pkAt ps i)).k (pkAt ps i).r
def pkIn (l : List Op5) (p : Pk) : Prop := 0 ≤ p.o ∧ p.o < l.length
instance (l : List Op5) (p : Pk) : Decidable (pkIn l p) := by unfold pkIn; infer_instance
def pkDup (ps : List Pk) (i : Nat) (x : Int) : Prop := ∃ k, k < i ∧ (pkAt ps k).o = x
instance (ps : List Pk) (i : Nat) (x : Int) : Decidable (pkDup ps i x) := by unfold pkDup; infer_instance
def pkE (o : Ob) (l : List Op5) (st : Int) (ps : List Pk) (i : Nat) : Int :=
  if ¬ pkIn l (pkAt ps i) then 2 else if pkDup ps i (pkAt ps i).o then 21 else if stE o (rSt o l st ps i) (pkOp l (pkAt ps i)).k (pkAt ps i).r ≠ 0 then stE o (rSt o l st ps i) (pkOp l (pkAt ps i)).k (pkAt ps i).r else if (pkOp l (pkAt ps i)).e ≠ -1 ∧ (pkOp l (pkAt ps i)).r ≠ (pkAt ps i).r then 40 else 0
def rBad (o : Ob) (l : List Op5) (st : Int) (ps : List Pk) : Nat := fb (pkE o l st ps) ps.length
def rOk (o : Ob) (l : List Op5) (st : Int) (ps : List Pk) : Prop := obE o = 0 ∧ (0 ≤ st ∧ st < o.S) ∧ ∀ i, i < ps.length → pkE o l st ps i = 0
def rEnd (o : Ob) (l : List Op5) (st : Int) (ps : List Pk) : Int := if obE o = 0 ∧ (0 ≤ st ∧ st < o.S) ∧ rBad o l st ps = ps.length then rSt o l st ps ps.length else 0
def rAt (o : Ob) (l : List Op5) (st : Int) (ps : List Pk) : Int := if obE o = 0 ∧ (0 ≤ st ∧ st < o.S) then (rBad o l st ps : Int) else -1
def rErr (o : Ob) (l : List Op5) (st : Int) (ps : List Pk) : Int := if obE o ≠ 0 then 2 else if ¬ (0 ≤ st ∧ st < o.S) then 30 else if rBad o l st ps < ps.length then pkE o l st ps (rBad o l st ps) else 0
def flP (o : Ob) (l : List Op5) (ord : List Int) : Nat → List Pk
  | 0 => []
  | i + 1 => flP o l ord i ++ [⟨ord.getD i 0, if 0 ≤ ord.getD i 0 ∧ ord.getD i 0 < l.length then mvR o (rSt o l o.I (flP o l ord i) i) (oAt l (ord.getD i 0).toNat).k else 0⟩]
end Go.Proofs.YtghdacijcnmhlaaDoor
namespace Go.Proofs.YtghdacijcnmhlaaDoor
open Go.RowKit
set_option linter.unusedVariables false
set_option linter.unusedSimpArgs false
structure SX (P : Program) (f : FuncId) (args : List AV) (H : AHeap) (M : MS) (Q : AV → AHeap → MS → Prop) : Prop where
  callable : Callable P f
  calls : ∀ (K : Nat → Option Obj) (G : Gh) (w : World) (vs : List Value), (∀ b x, K b = some x → G.kp b = some x) → MOK K G M → Inv G H w → RL H.length G args vs → Calls P f vs.toArray w fun e w' => ∃ v r G' H' M', e = .returned v ∧ Gh.leb H.length { G with kp := K } G' ∧ MOK K G' M' ∧ H.length ≤ H'.length ∧ Inv G' H' w' ∧ RA H'.length G' r v ∧ Q r H' M'
theorem SX.mono {P : Program} {f : FuncId} {args : List AV} {H : AHeap} {M : MS} {Q Q' : AV → AHeap → MS → Prop} (h : SX P f args H M Q) (hq : ∀ r H' M', Q r H' M' → Q' r H' M') : SX P f args H M Q' :=
  ⟨h.callable, fun K G w vs hk hm hi hr => (h.calls K G w vs hk hm hi hr).mono fun e w' ⟨v, r, G', H', M', h1, h2, h3, h4, h5, h6, h7⟩ => ⟨v, r, G', H', M', h1, h2, h3, h4, h5, h6, hq _ _ _ h7⟩⟩
section
variable {P : Program} {tt : TT} {m : Nat} {Q : Exit → XS → Prop} {fr : List AV} {H : AHeap} {M : MS} {l : List Oper} {o : Oper}
def bodyXM (P : Program) (fn : Func) (load : AHeap → TypeId → AV → Option AV) (Q : AV → AHeap → MS → Prop) : Exit → XS → Prop
  | .normal, s | .ret, s => ∃ r, aresults P fn s.as (load s.H) = some r ∧ Q r s.H s.M
  | _, _ => False
theorem SX_of_body {f : FuncId} {fn : Func} {c : Code} {args : List AV} {H : AHeap} {M : MS} {Q : AV → AHeap → MS → Prop} (load : AHeap → TypeId → AV → Option AV) (hl : ∀ H, LoadOk P H (load H)) (hf : P.funcs[f]? = some fn) (hb : fn.body = some c) (hname : (fn.name == "runtime.NumGoroutine") = false)
    (h : AX P H.length c (bodyXM P fn load Q) ⟨args ++ List.replicate (fn.ntmps - args.length) uD, H, M⟩) : SX P f args H M Q := by
  refine ⟨⟨fn, hf, hname, by rw [hb]; rfl⟩, fun K G w vs hk hm hi hr => ?_⟩
  refine calls_of_wp hf hb ?_
  refine wp_mono (h { G with kp := K } G _ w (Nat.le_refl _) ⟨fun _ _ _ => rfl, fun _ _ _ => rfl, fun _ _ h => h, fun _ _ h => h, fun _ _ h => h, hk, fun b x y _ e => ⟨y, e⟩, rfl, rfl, rfl⟩ hm ⟨rfl, ?_, hi⟩) ?_
  · simp only [Array.toList_append, Array.toList_replicate]
    refine RL.append hr ⟨by simp [hr.1], fun i x v h1 h2 => ?_⟩
    rw [List.getElem?_replicate] at h1 h2
    split at h1 <;> split at h2 <;> simp_all
    subst h1 h2
    exact .iv _ _ (.lit _)
  · rintro e a w' ⟨G', s', hleb, hM', hn, hr', hq⟩
    cases e with
    | normal =>
      obtain ⟨r, h1, h2⟩ := hq
      obtain ⟨v, h3, h4⟩ := aresults_run (hl _) hr' h1
      exact ⟨hr'.defers, v, h3, v, r, G', s'.H, s'.M, rfl, hleb, hM', hn, hr'.inv, h4, h2⟩
    | ret =>
      obtain ⟨r, h1, h2⟩ := hq
      obtain ⟨v, h3, h4⟩ := aresults_run (hl _) hr' h1
      exact ⟨hr'.defers, v, h3, v, r, G', s'.H, s'.M, rfl, hleb, hM', hn, hr'.inv, h4, h2⟩
    | _ => exact hq.elim
theorem SX.of {f : FuncId} {args : List AV} {Q : AV → AHeap → Prop} (h : SF P f args H Q) : SX P f args H M fun r H' M' => Q r H' ∧ M' = M :=
  ⟨h.callable, fun K G w vs hk hm hi hr => (h.calls G w vs hi hr).mono fun e w' ⟨v, r, G', H', h1, h2, h3, h4, h5, h6⟩ =>
    ⟨v, r, G', H', M, h1, ⟨fun o ho hd => h2.mu o hd, fun o ho hd => h2.sz o hd, fun o ho hd => h2.dom o hd, h2.back, h2.fz, fun b x e => h2.kp b x (hk b x e), fun b x y e f => h2.new b x y (hk b x e) f, h2.os, h2.tape, h2.output⟩, hm.leb (h2.leb (Nat.le_refl _)), h3, h4, h5, h6, rfl⟩⟩
theorem SX.sf {f : FuncId} {args : List AV} {Q : AV → AHeap → MS → Prop} (h : SX P f args H [] Q) : SF P f args H fun r H' => ∃ M', Q r H' M' :=
  ⟨h.callable, fun G w vs hi hr => (h.calls G.kp G w vs (fun _ _ e => e) (.nil _ _) hi hr).mono fun e w' ⟨v, r, G', H', M', h1, h2, h3, h4, h5, h6, h7⟩ =>
    ⟨v, r, G', H', h1, h2.le hi.dom, h4, h5, h6, M', h7⟩⟩
theorem leb_call {G0 G G' : Gh} (hm : m ≤ H.length) (hl : Gh.leb m G0 G) (h : Gh.leb H.length { G with kp := G0.kp } G') : Gh.leb m G0 G' :=
  Gh.leb.trans (b := { G with kp := G0.kp }) ⟨hl.mu, hl.sz, hl.dom, hl.back, hl.fz, fun _ _ e => e, hl.new, hl.os, hl.tape, hl.output⟩
    ⟨fun o ho => h.mu o (Nat.lt_of_lt_of_le ho hm), fun o ho => h.sz o (Nat.lt_of_lt_of_le ho hm), fun o ho => h.dom o (Nat.lt_of_lt_of_le ho hm), fun o ho => h.back o (Nat.lt_of_lt_of_le ho hm), h.fz, h.kp, h.new, h.os, h.tape, h.output⟩
theorem RL.kpany {n : Nat} {G : Gh} {kp : Nat → Option Obj} {xs : List AV} {vs : List Value} (h : RL n G xs vs) : RL n { G with kp := kp } xs vs := ⟨h.1, fun i x v e e' => (h.2 i x v e e').kpany⟩
theorem Rst.call {G0 G G' : Gh} {s : AS} {H' : AHeap} {a : Act} {w w' : World} {x : AV} {v : Value} {kp : Nat → Option Obj} (hr : Rst G s a w) (h : Gh.leb s.H.length { G with kp := kp } G') (hn : s.H.length ≤ H'.length) (hi : Inv G' H' w') (hx : RA H'.length G' x v) (d : Option Tmp) : Rst G' ⟨putL s.fr d x, H'⟩ (a.put d v) w' := by
  have hle : Gh.le s.H.length { G with kp := kp } G' := h.le hr.inv.dom
  have hfr : RL H'.length G' s.fr a.tmps.toList := (RL.kpany (kp := kp) hr.fr).mono hle hn
  refine ⟨?_, ?_, hi⟩
  · cases d <;> exact hr.defers
  · cases d with
    | none => exact hfr
    | some d =>
      simp only [putL, Act.put, Array.toList_setIfInBounds]
      exact hfr.set d hx
theorem AX_late {c : Code} {s : XS} (h : AX P m c (fun e s => LeadX m s (Q e)) s) : AX P m c Q s := fun G0 G a w hm hl hM hr =>
  wp_mono (h G0 G a w hm hl hM hr) fun e a w ⟨G', s', h1, h2, h3, h4, h5⟩ => h5 G0 G' a w h3 h1 h2 h4
theorem SX_of_bodyL {f : FuncId} {fn : Func} {c : Code} {args : List AV} {H : AHeap} {M : MS} {Q : AV → AHeap → MS → Prop} (load : AHeap → TypeId → AV → Option AV) (hl : ∀ H, LoadOk P H (load H)) (hf : P.funcs[f]? = some fn) (hb : fn.body = some c) (hname : (fn.name == "runtime.NumGoroutine") = false)
    (h : AX P H.length c (fun e s => LeadX H.length s (bodyXM P fn load Q e)) ⟨args ++ List.replicate (fn.ntmps - args.length) uD, H, M⟩) : SX P f args H M Q := SX_of_body load hl hf hb hname (AX_late h)
theorem lead_drop {fr : List AV} {S : XS → Prop} (sel ds : List Nat) (H1 : AHeap) (hs1 : sel.Nodup) (hs2 : sel.all (fun p => decide (m ≤ p)) = true) (hH : okH (named m sel) (H.take m ++ sel.map (atH H)) = true) (hF : okF (named m sel) ds 0 fr = true)
    (hh : selH m sel H = H1) (h : ∀ d : Nat → AV, S ⟨deadS (fr.map (AV.rn (newNo m sel))) d ds, H1, M⟩) : LeadX m ⟨fr, H, M⟩ S :=
  LeadX.of (.ren sel ds hs1 hs2 hH hF fun d => by rw [hh]; exact h _)
theorem XRes_callvX {d : Option Tmp} {fo : Operand} {args : Array Operand} {tys : Array TypeId} {ty : TypeId} {pos : String} {after : Array Edge} {g : Option (Nat × Bool)}
    (hw : wantedS fr ⟨d, .call { callee := .value fo, args := args, argTypes := tys }, ty, pos, after, g⟩ = some true)
    {f : FuncId} {first caps : List AV} (hf : AS.ev ⟨fr, H⟩ fo = .fn f first caps) {K : AV → AHeap → MS → Prop} (hc : SX P f (first ++ args.toList.map (AS.ev ⟨fr, H⟩) ++ caps) H M K)
    (h : ∀ r H' M', K r H' M' → XRes P m Q (l, ⟨putL fr d r, H', M'⟩)) : XRes P m Q (⟨d, .call { callee := .value fo, args := args, argTypes := tys }, ty, pos, after, g⟩ :: l, ⟨fr, H, M⟩) := fun n hn G0 G a w hm hl hM hr => by
  unfold wpList
  rw [if_pos (hr.wanted (ops := idB n) (b := true) (by rw [wantedS_ok hn]; exact hw))]
  refine .inl ?_
  have hfe := hr.ev fo
  rw [hf] at hfe
  generalize hfv : a.eval fo = fv at hfe
  cases hfe with
  | fn _ _ _ vs us h1 h2 h3 h4 =>
    have hargs : RL H.length G (first ++ args.toList.map (AS.ev ⟨fr, H⟩) ++ caps) (vs ++ args.toList.map a.eval ++ us) := RL.append (RL.append ⟨h1, h3⟩ (AS.args hr _)) ⟨h2, h4⟩
    have hrun : (execOp a.eval ⟨d, .call { callee := .value fo, args := args, argTypes := tys }, ty, pos, after, g⟩).run P w = .ok (.enter f (vs ++ args.toList.map a.eval ++ us).toArray) w := by
      have e : (vs ++ args.toList.map a.eval ++ us).toArray = vs.toArray ++ args.map a.eval ++ us.toArray := by
        apply Array.toList_inj.1; simp
      rw [e]
      simp [execOp, resolve, hfv, Deferred.ofValue, invoke, run_enter hc.callable]
    unfold Oper.wp
    rw [hrun]
    refine (hc.calls G0.kp G w _ hl.kp hM hr.inv hargs).mono fun e w' hp => ?_
    obtain ⟨v, r, G', H', M', rfl, hle, hM', hn', hi, hx, hk⟩ := hp
    exact h r H' M' hk n (by show (putL _ _ _).length ≤ n; rw [putL_len]; exact hn) G0 G' _ w' (Nat.le_trans hm hn') (leb_call hm hl hle) hM' (hr.call (G0 := G0) hle hn' hi hx d)
theorem XRes_fnX {d : Option Tmp} {f : FuncId} {args : Array Operand} {tys : Array TypeId} {ty : TypeId} {pos : String} {after : Array Edge} {g : Option (Nat × Bool)}
    (hw : wantedS fr ⟨d, .call { callee := .value (.func f), args := args, argTypes := tys }, ty, pos, after, g⟩ = some true) {K : AV → AHeap → MS → Prop} (hc : SX P f (args.toList.map (AS.ev ⟨fr, H⟩)) H M K)
    (h : ∀ r H' M', K r H' M' → XRes P m Q (l, ⟨putL fr d r, H', M'⟩)) : XRes P m Q (⟨d, .call { callee := .value (.func f), args := args, argTypes := tys }, ty, pos, after, g⟩ :: l, ⟨fr, H, M⟩) :=
  XRes_callvX hw rfl (by simpa using hc) h
end
end Go.Proofs.YtghdacijcnmhlaaDoor
namespace Go.Proofs.YtghdacijcnmhlaaDoor
open Go.RowKit
set_option linter.unusedVariables false
set_option linter.unusedSimpArgs false
inductive OpLk (P : Program) (m : Nat) (G0 : Gh) (ops : Array Oper) (S : AHeap → Prop) (H0 : AHeap) (o : Oper) (fr : List AV) (H H' : AHeap) (M M' : MS) : AV → Kd → Bool → Prop
  | skip (k : Kd) : k.al = false → H' = H → M' = M → AS.wanted ⟨fr, H⟩ ops o = some false → OpLk P m G0 ops S H0 o fr H H' M M' uD k false
  | free (x : AV) : H' = H → M' = M → AS.wanted ⟨fr, H⟩ ops o = some true → (∀ H, Does P ops o fr H x H) → OpLk P m G0 ops S H0 o fr H H' M M' x .free false
  | look (x : AV) : H' = H → M' = M → AS.wanted ⟨fr, H⟩ ops o = some true → (∀ H, S H → Does P ops o fr H x H) → OpLk P m G0 ops S H0 o fr H H' M M' x .free true
  | read (x : AV) : H' = H → M' = M → AS.wanted ⟨fr, H⟩ ops o = some true → Does P ops o fr H0 x H0 → OpLk P m G0 ops S H0 o fr H H' M M' x .read false
  | turn (x : AV) (f : Bool) : (f = true → S H') → AS.wanted ⟨fr, H⟩ ops o = some true → H.length ≤ H'.length → (∀ (Q : Exit → Act → World → Prop) (G : Gh) (a : Act) (w : World) (K : Act → World → Prop), Gh.leb m G0 G → MOK G0.kp G M → Inv G H w → Looks ops o H.length G fr a →
      (∀ kp' G' v w', (∃ lo, Gh.le lo { G with kp := kp' } G') → Gh.leb m G0 G' → MOK G0.kp G' M' → Inv G' H' w' → RA H'.length G' x v → K (a.put o.dst v) w') → o.wp P a w K Q) → OpLk P m G0 ops S H0 o fr H H' M M' x .chg f
structure Steps5 (P : Program) (m : Nat) (G0 : Gh) (ops : Array Oper) (S : AHeap → Prop) (b : Nat) (Hk : Nat → AHeap) (al : List Kd) (fl : List Bool) (X : Nat → AV) (F : Nat → List AV) (Mk : Nat → MS) : Prop where
  ok : ∀ k o, ops[k]? = some o → OpLk P m G0 ops S (Hk 0) o (F k) (Hk k) (Hk (k + 1)) (Mk k) (Mk (k + 1)) (X k) (al.getD k .free) (fl.getD k false) ∧ F (k + 1) = putL (F k) o.dst (X k)
  hS : S (Hk 0)
  bs : b ≤ ops.size
  bk : b < ops.size → (al.getD b .free).al = true
  keep : ∀ q, q < b → (al.getD q .free).al = true → fl.getD q false = true
  anc : ∀ k, k < ops.size → (al.getD k .free).al = false → fl.getD k false = true → b < ops.size → Anc ops b k
section
variable {P : Program} {m : Nat} {G0 : Gh} {ops : Array Oper} {S : AHeap → Prop} {b : Nat} {Hk : Nat → AHeap} {al : List Kd} {fl : List Bool} {X : Nat → AV} {F : Nat → List AV} {Mk : Nat → MS}
theorem Steps5.len (h : Steps5 P m G0 ops S b Hk al fl X F Mk) : ∀ k, k ≤ ops.size → (F k).length = (F 0).length
  | 0, _ => rfl
  | k + 1, hk => by
    obtain ⟨_, h2⟩ := h.ok k _ (Array.getElem?_eq_getElem (by omega))
    rw [h2, ← h.len k (by omega)]
    unfold putL; split <;> simp
theorem Steps5.same (h : Steps5 P m G0 ops S b Hk al fl X F Mk) {k : Nat} (hk : k < ops.size) (ha : (al.getD k .free).al = false) : Hk (k + 1) = Hk k ∧ Mk (k + 1) = Mk k := by
  obtain ⟨h1, _⟩ := h.ok k _ (Array.getElem?_eq_getElem hk)
  generalize X k = x at h1
  generalize fl.getD k false = fg at h1
  generalize al.getD k .free = kd at h1 ha
  cases h1 with
  | skip _ _ e1 e2 => exact ⟨e1, e2⟩
  | free _ e1 e2 => exact ⟨e1, e2⟩
  | look _ e1 e2 => exact ⟨e1, e2⟩
  | read _ e1 e2 => exact ⟨e1, e2⟩
  | turn _ _ _ _ _ _ => cases ha
theorem Steps5.grow (h : Steps5 P m G0 ops S b Hk al fl X F Mk) : ∀ k, k ≤ ops.size → (Hk 0).length ≤ (Hk k).length
  | 0, _ => Nat.le_refl _
  | k + 1, hk => by
    refine Nat.le_trans (h.grow k (by omega)) ?_
    obtain ⟨h1, _⟩ := h.ok k _ (Array.getElem?_eq_getElem (by omega))
    generalize X k = x at h1
    generalize fl.getD k false = fg at h1
    generalize al.getD k .free = kd at h1
    cases h1 with
    | skip _ _ e1 e2 => rw [e1]; exact Nat.le_refl _
    | free _ e1 e2 => rw [e1]; exact Nat.le_refl _
    | look _ e1 e2 => rw [e1]; exact Nat.le_refl _
    | read _ e1 e2 => rw [e1]; exact Nat.le_refl _
    | turn _ _ _ _ e _ => exact e
theorem Steps5.kind (h : Steps5 P m G0 ops S b Hk al fl X F Mk) {k : Nat} (hk : k < ops.size) (ha : (al.getD k .free).al = true) : al.getD k .free = .chg := by
  obtain ⟨h1, _⟩ := h.ok k _ (Array.getElem?_eq_getElem hk)
  generalize X k = x at h1
  generalize fl.getD k false = fg at h1
  generalize al.getD k .free = kd at h1 ha
  cases h1 with
  | skip _ e _ _ _ => rw [e] at ha; cases ha
  | free _ _ _ => cases ha
  | look _ _ _ => cases ha
  | read _ _ _ => cases ha
  | turn _ _ _ _ _ _ => rfl
theorem Steps5.flat (h : Steps5 P m G0 ops S b Hk al fl X F Mk) {c : Nat} : ∀ d, c + d ≤ ops.size → (∀ i, c ≤ i → i < c + d → (al.getD i .free).al = false) → Hk (c + d) = Hk c ∧ Mk (c + d) = Mk c
  | 0, _, _ => ⟨rfl, rfl⟩
  | d + 1, hd, ha => by
    obtain ⟨e1, e2⟩ := h.flat d (by omega) fun i h1 h2 => ha i h1 (by omega)
    obtain ⟨e3, e4⟩ := h.same (show c + d < ops.size by omega) (ha (c + d) (by omega) (by omega))
    exact ⟨e3.trans e1, e4.trans e2⟩
theorem Steps5.kept (h : Steps5 P m G0 ops S b Hk al fl X F Mk) : ∀ k, k ≤ b → S (Hk k)
  | 0, _ => h.hS
  | k + 1, hk => by
    have ih := h.kept k (by omega)
    have hb := h.bs
    obtain ⟨h1, _⟩ := h.ok k _ (Array.getElem?_eq_getElem (show k < ops.size by omega))
    have hkp := h.keep k (by omega)
    generalize X k = x at h1
    generalize fl.getD k false = fg at h1 hkp
    generalize al.getD k .free = kd at h1 hkp
    cases h1 with
    | skip _ _ e1 e2 => rw [e1]; exact ih
    | free _ e1 e2 => rw [e1]; exact ih
    | look _ e1 e2 => rw [e1]; exact ih
    | read _ e1 e2 => rw [e1]; exact ih
    | turn _ _ e _ _ _ => exact e (hkp rfl)
theorem Steps5.slot (h : Steps5 P m G0 ops S b Hk al fl X F Mk) {t : Nat} (ht : t < (F 0).length) : ∀ k, k ≤ ops.size →
    (∀ i, i < k → dstAt ops i = some t → (∀ q, i < q → q < k → dstAt ops q ≠ some t) → (F k).getD t uD = X i) ∧ ((∀ i, i < k → dstAt ops i ≠ some t) → (F k).getD t uD = (F 0).getD t uD)
  | 0, _ => ⟨fun i hi => absurd hi (by omega), fun _ => rfl⟩
  | k + 1, hk => by
    have hlt : k < ops.size := by omega
    obtain ⟨ih1, ih2⟩ := h.slot ht k (by omega)
    have hl := h.len k (by omega)
    obtain ⟨_, h2⟩ := h.ok k _ (Array.getElem?_eq_getElem hlt)
    have hd : dstAt ops k = (ops[k]).dst := by unfold dstAt; rw [Array.getElem?_eq_getElem hlt]; rfl
    rw [h2]
    have key : (putL (F k) (ops[k]).dst (X k)).getD t uD = if dstAt ops k = some t then X k else (F k).getD t uD := by
      rw [hd]
      unfold putL
      split
      · rename_i d he
        rw [he]
        by_cases e : d = t
        · subst e
          rw [if_pos rfl, List.getD_eq_getElem?_getD, List.getElem?_set_self (by rw [hl]; exact ht)]; rfl
        · rw [if_neg (by simpa using e), List.getD_eq_getElem?_getD, List.getElem?_set_ne e, List.getD_eq_getElem?_getD]
      · rename_i he; rw [he, if_neg (by simp)]
    rw [key]
    constructor
    · intro i hi he hno
      split
      · rename_i hk2
        rcases Nat.lt_or_ge i k with h3 | h3
        · exact absurd hk2 (hno k h3 (by omega))
        · have : i = k := by omega
          subst this; rfl
      · rename_i hk2
        have hik : i < k := by
          rcases Nat.lt_or_ge i k with h3 | h3
          · exact h3
          · have : i = k := by omega
            subst this; exact absurd he hk2
        exact ih1 i hik he fun q h3 h4 => hno q h3 (by omega)
    · intro hno
      rw [if_neg (hno k (by omega))]
      exact ih2 fun i hi => hno i (by omega)
theorem Sl.at5 (h : Steps5 P m G0 ops S b Hk al fl X F Mk) {n : Nat} {G : Gh} {listed : Array Bool} {a : Act} (hs : Sl ops ops.size X F n G listed a) {k : Nat} (hk : k ≤ ops.size) (t : Nat) (h1 : ∀ i, i < k → dstAt ops i = some t → listed.getD i false = true) (h2 : ∀ i, k ≤ i → i < ops.size → dstAt ops i = some t → listed.getD i false = false) :
    RA n G ((F k).getD t uD) (a.tmps.getD t undef) := by
  by_cases ht : t < (F 0).length
  · obtain ⟨s1, s2⟩ := h.slot ht k hk
    by_cases hex : ∃ i, i < k ∧ dstAt ops i = some t
    · obtain ⟨i, h3, h4, h5⟩ := last_such _ k hex
      rw [s1 i h3 h4 fun q h6 h7 => h5 q h6 h7]
      refine hs.wr t i ht (by omega) (h1 i h3 h4) h4 fun q h6 h7 h8 h9 => ?_
      rcases Nat.lt_or_ge q k with h10 | h10
      · exact h5 q h6 h10 h9
      · rw [h2 q h10 h7 h9] at h8; cases h8
    · have hno : ∀ i, i < k → dstAt ops i ≠ some t := fun i hi e => hex ⟨i, hi, e⟩
      rw [s2 hno]
      refine hs.un t ht fun j hj hl e => ?_
      rcases Nat.lt_or_ge j k with h10 | h10
      · exact hno j h10 e
      · rw [h2 j h10 hj e] at hl; cases hl
  · have e1 : (F k).getD t uD = uD := by rw [List.getD_eq_getElem?_getD, List.getElem?_eq_none (by rw [h.len k hk]; omega)]; rfl
    have e2 : a.tmps.getD t undef = undef := by
      have := hs.size
      simp [Array.getD, show ¬ t < a.tmps.size by omega]
    rw [e1, e2]; exact .iv _ _ (.lit _)
theorem any5 (ord : Ord ops ops.size al) (h : Steps5 P m G0 ops S b Hk al fl X F Mk) (hm : m ≤ (Hk 0).length) {R : Exit → Act → World → Prop} (fin : ∀ G a w, Gh.leb m G0 G → MOK G0.kp G (Mk ops.size) → Rst G ⟨F ops.size, Hk ops.size⟩ a w → R .normal a w) : ∀ (fuel : Nat) (listed : Array Bool) (a : Act) (w : World) (G : Gh) (c : Nat),
    fuel = left listed → Closed ops listed → a.defers = [] → Sl ops ops.size X F (Hk c).length G listed a → c ≤ ops.size → (∀ j, j < ops.size → (al.getD j .free).al = true → (listed.getD j false = true ↔ j < c)) → Inv G (Hk c) w → Gh.leb m G0 G → MOK G0.kp G (Mk c) →
    wpAny P .any ops R fuel listed a w := by
  intro fuel
  induction fuel with
  | zero =>
    intro listed a w G c hf hc hd hs hcN hal hi hl hM
    have hall : ∀ j, j < ops.size → listed.getD j false = true := fun j hj => left_zero hf.symm (by rw [hc.1]; exact hj)
    have hready : Region.ready .any ops listed = [] := by
      cases hr : Region.ready .any ops listed with
      | nil => rfl
      | cons j js =>
        obtain ⟨h1, h2, _⟩ := (ready_spec hc.1).1 (hr ▸ List.mem_cons_self : j ∈ Region.ready .any ops listed)
        rw [hall j h1] at h2; cases h2
    refine ⟨hready, ?_⟩
    have hflat : Hk ops.size = Hk c ∧ Mk ops.size = Mk c := by
      have := h.flat (c := c) (ops.size - c) (by omega) (fun i h1 h2 => by
        cases hb : (al.getD i .free).al with
        | false => rfl
        | true => exact absurd ((hal i (by omega) hb).1 (hall i (by omega))) (by omega))
      rwa [show c + (ops.size - c) = ops.size by omega] at this
    rw [← hflat.1] at hs hi
    refine fin G a w hl (by rw [hflat.2]; exact hM) ⟨hd, ⟨by rw [h.len _ (Nat.le_refl _)]; simp [hs.size], fun i x v e1 e2 => ?_⟩, hi⟩
    have := hs.at5 h (Nat.le_refl _) i (fun q hq _ => hall q hq) (fun q h1 h2 => by omega)
    rw [List.getD_eq_getElem?_getD, e1] at this
    rw [Array.getElem?_toList] at e2
    have e3 : a.tmps.getD i undef = v := by obtain ⟨hlt, rfl⟩ := Array.getElem?_eq_some_iff.1 e2; simp [Array.getD, hlt]
    rw [e3] at this
    exact this
  | succ fuel ih =>
    intro listed a w G c hf hc hd hs hcN hal hi hl hM
    have hne : ∃ j, j < ops.size ∧ listed.getD j false = false := by
      apply Classical.byContradiction
      intro hno
      have hall : ∀ j, j < ops.size → listed.getD j false = true := fun j hj => by
        cases hb : listed.getD j false with
        | true => rfl
        | false => exact absurd ⟨j, hj, hb⟩ hno
      have : left listed = 0 := by
        unfold left
        rw [List.count_eq_zero]
        intro hmem
        obtain ⟨j, hj, e⟩ := List.mem_iff_getElem.1 hmem
        have hj' : j < listed.size := by simpa using hj
        have := hall j (by rw [← hc.1]; exact hj')
        simp [Array.getD, hj'] at this
        simp at e
        rw [this] at e; cases e
      omega
    refine ⟨fun hr => ?_, fun j hj => ?_⟩
    · exfalso
      obtain ⟨q, hq, hq2⟩ := hne
      have : ∀ d q, q = d → q < ops.size → listed.getD q false = false → False := by
        intro d
        induction d using Nat.strongRecOn with
        | _ d ihd =>
          intro q hqd hq hq2
          by_cases hdep : ∀ e ∈ dirs ops q, listed.getD e false = true
          · have := (ready_spec hc.1).2 ⟨hq, hq2, hdep⟩
            rw [hr] at this; cases this
          · rcases Classical.not_forall.1 hdep with ⟨e, he⟩
            obtain ⟨he1, he2⟩ := Classical.not_imp.1 he
            have := ord.low q e he1
            exact ihd e (by omega) e rfl (by omega) (by simpa using he2)
      exact this q q rfl hq hq2
    · obtain ⟨h1, h2, h3⟩ := (ready_spec hc.1).1 hj
      have hoj := Array.getElem?_eq_getElem h1
      obtain ⟨hok, hFs⟩ := h.ok j _ hoj
      have hdj : dstAt ops j = (ops[j]).dst := by unfold dstAt; rw [hoj]; rfl
      have big : ∀ i, j < i → i < ops.size → listed.getD i false = true → ∀ t, dstAt ops i = some t → (t ∈ (ops[j]).looksAt ops ∨ (ops[j]).dst = some t) → False := fun i h4 h5 h6 t h7 h8 => by
        have hoi := Array.getElem?_eq_getElem (show i < ops.size by omega)
        have hdi : (ops[i]'(by omega)).dst = some t := by unfold dstAt at h7; rw [hoi] at h7; exact h7
        have := (ord.names i j _ _ t h5 h1 hoi hoj hdi h8).2 h4
        have := Anc.listed (j := i) (i := j) hc (hc.2 i h6) this
        rw [h2] at this; cases this
      have hlooks : Looks ops (ops[j]) (Hk c).length G (F j) a := by
        refine ⟨by rw [h.len j (by omega), hs.size], fun t ht => ?_⟩
        refine hs.at5 h (by omega) t (fun i h4 h5 => ?_) (fun i h4 h5 h6 => ?_)
        · have hoi := Array.getElem?_eq_getElem (show i < ops.size by omega)
          have hdi : (ops[i]'(by omega)).dst = some t := by unfold dstAt at h5; rw [hoi] at h5; exact h5
          exact Anc.listed (j := j) (i := i) hc h3 ((ord.names i j _ _ t (by omega) h1 hoi hoj hdi (.inl ht)).1 h4)
        · rcases Nat.lt_or_ge j i with h7 | h7
          · cases hb : listed.getD i false with
            | false => rfl
            | true => exact (big i h7 h5 hb t h6 (.inl ht)).elim
          · have : i = j := by omega
            subst this; exact h2
      have hbig : ∀ i, j < i → i < ops.size → listed.getD i false = true → dstAt ops i ≠ dstAt ops j ∨ dstAt ops j = none := fun i h4 h5 h6 => by
        cases hd : dstAt ops j with
        | none => exact .inr rfl
        | some t => exact .inl fun e => big i h4 h5 h6 t e (.inr (by rw [← hdj]; exact hd))
      have hleft : fuel = left (listed.setIfInBounds j true) := by
        have := left_set (j := j) (by rw [hc.1]; exact h1) h2; omega
      have hjs : j < listed.size := by rw [hc.1]; exact h1
      have go : ∀ (G' : Gh) (v : Value) (w' : World) (c' : Nat), (∃ lo kp', Gh.le lo { G with kp := kp' } G') → c' ≤ ops.size → (∀ q, q < ops.size → (al.getD q .free).al = true → ((listed.setIfInBounds j true).getD q false = true ↔ q < c')) → (Hk c).length ≤ (Hk c').length → Inv G' (Hk c') w' → Gh.leb m G0 G' → MOK G0.kp G' (Mk c') → RA (Hk c').length G' (X j) v →
          wpAny P .any ops R fuel (listed.setIfInBounds j true) (a.put (ops[j]).dst v) w' := fun G' v w' c' ⟨lo, kp', k1⟩ k2 k3 kn k4 k5 k6 k7 => by
        refine ih _ _ w' G' c' hleft (hc.set hj) (by unfold Act.put; split <;> exact hd) ?_ k2 k3 k4 k5 k6
        rw [← hdj]
        exact (hs.kp kp').put k1 kn h1 hjs k7 hbig
      have same : (al.getD j .free).al = false → ∀ q, q < ops.size → (al.getD q .free).al = true → ((listed.setIfInBounds j true).getD q false = true ↔ q < c) := fun hb q hq ha => by
        rw [getD_set _ _ _ hjs, if_neg (fun e => by subst e; rw [hb] at ha; cases ha)]
        exact hal q hq ha
      unfold wpOp
      rw [hoj]
      simp only
      generalize hX : X j = x at hok go
      generalize hfg : fl.getD j false = fg at hok
      generalize hkd : al.getD j .free = kd at hok same
      have hmc : m ≤ (Hk c).length := Nat.le_trans hm (h.grow c hcN)
      cases hok with
      | skip _ ha _ _ hw =>
        rw [hlooks.wanted hw]
        exact go G undef w c ⟨0, G.kp, Gh.le.refl _ _⟩ hcN (same ha) (Nat.le_refl _) hi hl hM (.iv _ _ (.lit _))
      | free _ _ _ hw hdoes =>
        rw [if_pos (hlooks.wanted hw)]
        refine .inl ?_
        exact hdoes (Hk c) _ G a w _ hi hlooks fun G' v w' k1 k2 k3 k4 => go G' v w' c ⟨_, G.kp, k1⟩ hcN (same rfl) (Nat.le_refl _) k3 (hl.trans (k1.leb hmc)) (hM.leb (k1.leb hmc)) k4
      | look _ _ _ hw hdoes =>
        rw [if_pos (hlooks.wanted hw)]
        refine .inl ?_
        have hcb : c ≤ b := by
          rcases Nat.lt_or_ge b c with h4 | h4
          · have hbs : b < ops.size := by omega
            have hanc := h.anc j h1 (by rw [hkd]; rfl) hfg hbs
            have hb := (hal b hbs (h.bk hbs)).2 h4
            have := Anc.listed (j := b) (i := j) hc (hc.2 b hb) hanc
            rw [h2] at this; cases this
          · exact h4
        exact hdoes (Hk c) (h.kept c hcb) _ G a w _ hi hlooks fun G' v w' k1 k2 k3 k4 => go G' v w' c ⟨_, G.kp, k1⟩ hcN (same rfl) (Nat.le_refl _) k3 (hl.trans (k1.leb hmc)) (hM.leb (k1.leb hmc)) k4
      | read _ _ _ hw hdoes =>
        rw [if_pos (hlooks.wanted hw)]
        refine .inl ?_
        have hno : ∀ i, i < ops.size → (al.getD i .free).al = true → listed.getD i false = false := fun i h4 h5 => by
          cases hb : listed.getD i false with
          | false => rfl
          | true =>
            rcases ord.chg j i h1 h4 (h.kind h4 h5) with e | e | ⟨_, _, e⟩
            · rw [hkd] at e; cases e
            · rw [hkd] at e; cases e
            · have := Anc.listed (j := i) (i := j) hc (hc.2 i hb) e
              rw [h2] at this; cases this
        have e0 : Hk c = Hk 0 := by
          have := (h.flat (c := 0) c (by omega) (fun i _ h6 => by
            cases hb : (al.getD i .free).al with
            | false => rfl
            | true => have e1 := hno i (by omega) hb; have e2 := (hal i (by omega) hb).2 (by omega); rw [e1] at e2; cases e2)).1
          rwa [Nat.zero_add] at this
        refine (show Does P ops (ops[j]) (F j) (Hk c) x (Hk c) by rw [e0]; exact hdoes) _ G a w _ hi hlooks fun G' v w' k1 k2 k3 k4 => go G' v w' c ⟨_, G.kp, k1⟩ hcN (same rfl) (Nat.le_refl _) k3 (hl.trans (k1.leb hmc)) (hM.leb (k1.leb hmc)) k4
      | turn _ _ _ hw hlen hdoes =>
        rw [if_pos (hlooks.wanted hw)]
        refine .inl ?_
        have hcj : ∀ i, i < ops.size → (al.getD i .free).al = true → (listed.getD i false = true ↔ i < j) := fun i h4 h5 => by
          constructor
          · intro h6
            rcases Nat.lt_or_ge i j with h7 | h7
            · exact h7
            · exfalso
              rcases Nat.lt_or_ge j i with h8 | h8
              · have := ord.grows j i h8 h4 h5 (by rw [hkd]; rfl)
                have := Anc.listed (j := i) (i := j) hc (hc.2 i h6) this
                rw [h2] at this; cases this
              · have : i = j := by omega
                subst this; rw [h2] at h6; cases h6
          · intro h6
            exact Anc.listed (j := j) (i := i) hc h3 (ord.grows i j h6 h1 (by rw [hkd]; rfl) h5)
        have hMj : Hk j = Hk c ∧ Mk j = Mk c := by
          rcases Nat.le_total c j with h4 | h4
          · have := h.flat (c := c) (j - c) (by omega) (fun i h5 h6 => by
              cases hb : (al.getD i .free).al with
              | false => rfl
              | true => have e1 := (hcj i (by omega) hb).2 (by omega); have e2 := (hal i (by omega) hb).1 e1; omega)
            rwa [show c + (j - c) = j by omega] at this
          · have := h.flat (c := j) (c - j) (by omega) (fun i h5 h6 => by
              cases hb : (al.getD i .free).al with
              | false => rfl
              | true => have e1 := (hal i (by omega) hb).2 (by omega); have e2 := (hcj i (by omega) hb).1 e1; omega)
            rw [show j + (c - j) = c by omega] at this
            exact ⟨this.1.symm, this.2.symm⟩
        refine hdoes _ G a w _ hl (by rw [hMj.2]; exact hM) (by rw [hMj.1]; exact hi) (by rw [hMj.1]; exact hlooks) fun kp' G' v w' k0 k1 k2 k3 k4 => go G' v w' (j + 1) (by obtain ⟨lo, e⟩ := k0; exact ⟨lo, kp', e⟩) (by omega) (fun q hq ha => ?_) (by rw [← hMj.1]; exact hlen) k3 k1 k2 k4
        rw [getD_set _ _ _ hjs]
        split
        · rename_i e; subst e; exact ⟨fun _ => by omega, fun _ => rfl⟩
        · rename_i e
          rw [hcj q hq ha]
          omega
end
end Go.Proofs.YtghdacijcnmhlaaDoor
namespace Go.Proofs.YtghdacijcnmhlaaDoor
open Go.RowKit
set_option linter.unusedVariables false
set_option linter.unusedSimpArgs false
inductive Op4 (P : Program) (m : Nat) (G0 : Gh) (ops : Array Oper) (H0 : AHeap) (o : Oper) (fr : List AV) (H H' : AHeap) (M M' : MS) : AV → Kd → Prop
  | skip (k : Kd) : k.al = false → H' = H → M' = M → AS.wanted ⟨fr, H⟩ ops o = some false → Op4 P m G0 ops H0 o fr H H' M M' uD k
  | free (x : AV) : H' = H → M' = M → AS.wanted ⟨fr, H⟩ ops o = some true → (∀ H, Does P ops o fr H x H) → Op4 P m G0 ops H0 o fr H H' M M' x .free
  | read (x : AV) : H' = H → M' = M → AS.wanted ⟨fr, H⟩ ops o = some true → Does P ops o fr H0 x H0 → Op4 P m G0 ops H0 o fr H H' M M' x .read
  | turn (x : AV) : AS.wanted ⟨fr, H⟩ ops o = some true → H.length ≤ H'.length → (∀ (Q : Exit → Act → World → Prop) (G : Gh) (a : Act) (w : World) (K : Act → World → Prop), Gh.leb m G0 G → MOK G0.kp G M → Inv G H w → Looks ops o H.length G fr a →
      (∀ kp' G' v w', (∃ lo, Gh.le lo { G with kp := kp' } G') → Gh.leb m G0 G' → MOK G0.kp G' M' → Inv G' H' w' → RA H'.length G' x v → K (a.put o.dst v) w') → o.wp P a w K Q) → Op4 P m G0 ops H0 o fr H H' M M' x .chg
structure Steps4 (P : Program) (m : Nat) (G0 : Gh) (ops : Array Oper) (Hk : Nat → AHeap) (al : List Kd) (X : Nat → AV) (F : Nat → List AV) (Mk : Nat → MS) : Prop where
  ok : ∀ k o, ops[k]? = some o → Op4 P m G0 ops (Hk 0) o (F k) (Hk k) (Hk (k + 1)) (Mk k) (Mk (k + 1)) (X k) (al.getD k .free) ∧ F (k + 1) = putL (F k) o.dst (X k)
section
variable {P : Program} {m : Nat} {G0 : Gh} {ops : Array Oper} {Hk : Nat → AHeap} {al : List Kd} {X : Nat → AV} {F : Nat → List AV} {Mk : Nat → MS}
theorem Steps4.len (h : Steps4 P m G0 ops Hk al X F Mk) : ∀ k, k ≤ ops.size → (F k).length = (F 0).length
  | 0, _ => rfl
  | k + 1, hk => by
    obtain ⟨_, h2⟩ := h.ok k _ (Array.getElem?_eq_getElem (by omega))
    rw [h2, ← h.len k (by omega)]
    unfold putL; split <;> simp
theorem Steps4.same (h : Steps4 P m G0 ops Hk al X F Mk) {k : Nat} (hk : k < ops.size) (ha : (al.getD k .free).al = false) : Hk (k + 1) = Hk k ∧ Mk (k + 1) = Mk k := by
  obtain ⟨h1, _⟩ := h.ok k _ (Array.getElem?_eq_getElem hk)
  generalize X k = x at h1
  generalize al.getD k .free = kd at h1 ha
  cases h1 with
  | skip _ _ e1 e2 => exact ⟨e1, e2⟩
  | free _ e1 e2 => exact ⟨e1, e2⟩
  | read _ e1 e2 => exact ⟨e1, e2⟩
  | turn _ _ _ _ => cases ha
theorem Steps4.grow (h : Steps4 P m G0 ops Hk al X F Mk) : ∀ k, k ≤ ops.size → (Hk 0).length ≤ (Hk k).length
  | 0, _ => Nat.le_refl _
  | k + 1, hk => by
    refine Nat.le_trans (h.grow k (by omega)) ?_
    obtain ⟨h1, _⟩ := h.ok k _ (Array.getElem?_eq_getElem (by omega))
    generalize X k = x at h1
    generalize al.getD k .free = kd at h1
    cases h1 with
    | skip _ _ e1 e2 => rw [e1]; exact Nat.le_refl _
    | free _ e1 e2 => rw [e1]; exact Nat.le_refl _
    | read _ e1 e2 => rw [e1]; exact Nat.le_refl _
    | turn _ _ e _ => exact e
theorem Steps4.kind (h : Steps4 P m G0 ops Hk al X F Mk) {k : Nat} (hk : k < ops.size) (ha : (al.getD k .free).al = true) : al.getD k .free = .chg := by
  obtain ⟨h1, _⟩ := h.ok k _ (Array.getElem?_eq_getElem hk)
  generalize X k = x at h1
  generalize al.getD k .free = kd at h1 ha
  cases h1 with
  | skip _ e _ _ _ => rw [e] at ha; cases ha
  | free _ _ _ => cases ha
  | read _ _ _ => cases ha
  | turn _ _ _ _ => rfl
theorem Steps4.flat (h : Steps4 P m G0 ops Hk al X F Mk) {c : Nat} : ∀ d, c + d ≤ ops.size → (∀ i, c ≤ i → i < c + d → (al.getD i .free).al = false) → Hk (c + d) = Hk c ∧ Mk (c + d) = Mk c
  | 0, _, _ => ⟨rfl, rfl⟩
  | d + 1, hd, ha => by
    obtain ⟨e1, e2⟩ := h.flat d (by omega) fun i h1 h2 => ha i h1 (by omega)
    obtain ⟨e3, e4⟩ := h.same (show c + d < ops.size by omega) (ha (c + d) (by omega) (by omega))
    exact ⟨e3.trans e1, e4.trans e2⟩
theorem Steps4.slot (h : Steps4 P m G0 ops Hk al X F Mk) {t : Nat} (ht : t < (F 0).length) : ∀ k, k ≤ ops.size →
    (∀ i, i < k → dstAt ops i = some t → (∀ q, i < q → q < k → dstAt ops q ≠ some t) → (F k).getD t uD = X i) ∧ ((∀ i, i < k → dstAt ops i ≠ some t) → (F k).getD t uD = (F 0).getD t uD)
  | 0, _ => ⟨fun i hi => absurd hi (by omega), fun _ => rfl⟩
  | k + 1, hk => by
    have hlt : k < ops.size := by omega
    obtain ⟨ih1, ih2⟩ := h.slot ht k (by omega)
    have hl := h.len k (by omega)
    obtain ⟨_, h2⟩ := h.ok k _ (Array.getElem?_eq_getElem hlt)
    have hd : dstAt ops k = (ops[k]).dst := by unfold dstAt; rw [Array.getElem?_eq_getElem hlt]; rfl
    rw [h2]
    have key : (putL (F k) (ops[k]).dst (X k)).getD t uD = if dstAt ops k = some t then X k else (F k).getD t uD := by
      rw [hd]
      unfold putL
      split
      · rename_i d he
        rw [he]
        by_cases e : d = t
        · subst e
          rw [if_pos rfl, List.getD_eq_getElem?_getD, List.getElem?_set_self (by rw [hl]; exact ht)]; rfl
        · rw [if_neg (by simpa using e), List.getD_eq_getElem?_getD, List.getElem?_set_ne e, List.getD_eq_getElem?_getD]
      · rename_i he; rw [he, if_neg (by simp)]
    rw [key]
    constructor
    · intro i hi he hno
      split
      · rename_i hk2
        rcases Nat.lt_or_ge i k with h3 | h3
        · exact absurd hk2 (hno k h3 (by omega))
        · have : i = k := by omega
          subst this; rfl
      · rename_i hk2
        have hik : i < k := by
          rcases Nat.lt_or_ge i k with h3 | h3
          · exact h3
          · have : i = k := by omega
            subst this; exact absurd he hk2
        exact ih1 i hik he fun q h3 h4 => hno q h3 (by omega)
    · intro hno
      rw [if_neg (hno k (by omega))]
      exact ih2 fun i hi => hno i (by omega)
end
end Go.Proofs.YtghdacijcnmhlaaDoor
