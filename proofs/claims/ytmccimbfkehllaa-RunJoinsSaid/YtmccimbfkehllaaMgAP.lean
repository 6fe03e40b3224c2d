import Derived.Test.YtmccimbfkehllaaMgAN
import Derived.Test.YtmccimbfkehllaaMgAO
import Derived.Test.YtmccimbfkehllaaMgAL
namespace Go.Proofs.Ytmccimbfkehllaa
open Go.RowKit
def rwFl (x : Rw) : List Int := [x.s, x.k, x.n, x.r]
def flatR (xs : List Rw) : List Int := xs.flatMap rwFl
theorem flatR_at {j : Nat} (hj : j < 4) (xs : List Rw) (i : Nat) : (flatR xs).getD (i * 4 + j) 0 = (rwFl (rwAt xs i)).getD j 0 := by
  refine flat_at (g := rwFl) (w := 4) (fun _ => rfl) _ hj ?_ xs i
  match j, hj with | 0, _ | 1, _ | 2, _ | 3, _ => rfl
theorem flatR_s (xs : List Rw) (i : Nat) : (flatR xs).getD (i * 4) 0 = (rwAt xs i).s := flatR_at (j := 0) (by omega) xs i
theorem flatR_k (xs : List Rw) (i : Nat) : (flatR xs).getD (i * 4 + 1) 0 = (rwAt xs i).k := flatR_at (j := 1) (by omega) xs i
theorem flatR_n (xs : List Rw) (i : Nat) : (flatR xs).getD (i * 4 + 2) 0 = (rwAt xs i).n := flatR_at (j := 2) (by omega) xs i
theorem flatR_r (xs : List Rw) (i : Nat) : (flatR xs).getD (i * 4 + 3) 0 = (rwAt xs i).r := flatR_at (j := 3) (by omega) xs i
theorem flatR_len : ∀ xs : List Rw, (flatR xs).length = xs.length * 4
  | [] => rfl
  | x :: xs => by
    have := flatR_len xs
    unfold flatR at this ⊢
    rw [List.flatMap_cons, List.length_append, this, List.length_cons]
    show 4 + xs.length * 4 = _
    omega
abbrev rwA (x : Rw) : AV := .agg [lt (.int .i64 x.s), lt (.int .i64 x.k), lt (.int .i64 x.n), lt (.int .i64 x.r)]
abbrev iRws (xs : List Rw) : IV := .sl (fun j => .lit (.int .i64 ((flatR xs).getD j 0))) xs.length 4
abbrev obA (o : Ob) : AV := .agg [lt (.int .i64 o.S), lt (.int .i64 o.K), lt (.int .i64 o.I), .iv (iRws o.R)]
def pkFl (x : Pk) : List Int := [x.o, x.r]
def flatP (xs : List Pk) : List Int := xs.flatMap pkFl
theorem flatP_at {j : Nat} (hj : j < 2) (xs : List Pk) (i : Nat) : (flatP xs).getD (i * 2 + j) 0 = (pkFl (pkAt xs i)).getD j 0 := by
  refine flat_at (g := pkFl) (w := 2) (fun _ => rfl) _ hj ?_ xs i
  match j, hj with | 0, _ | 1, _ => rfl
theorem flatP_o (xs : List Pk) (i : Nat) : (flatP xs).getD (i * 2) 0 = (pkAt xs i).o := flatP_at (j := 0) (by omega) xs i
theorem flatP_r (xs : List Pk) (i : Nat) : (flatP xs).getD (i * 2 + 1) 0 = (pkAt xs i).r := flatP_at (j := 1) (by omega) xs i
theorem flatP_len : ∀ xs : List Pk, (flatP xs).length = xs.length * 2
  | [] => rfl
  | x :: xs => by
    have := flatP_len xs
    unfold flatP at this ⊢
    rw [List.flatMap_cons, List.length_append, this, List.length_cons]
    show 2 + xs.length * 2 = _
    omega
theorem flatP_app (xs ys : List Pk) : flatP (xs ++ ys) = flatP xs ++ flatP ys := by unfold flatP; rw [List.flatMap_append]
abbrev iPks (xs : List Pk) : IV := .sl (fun j => .lit (.int .i64 ((flatP xs).getD j 0))) xs.length 2
/-- All numbers of an object fit. -/
structure Ob.Ok (o : Ob) : Prop where
  S : -9223372036854775808 ≤ o.S ∧ o.S ≤ 9223372036854775807
  K : -9223372036854775808 ≤ o.K ∧ o.K ≤ 9223372036854775807
  I : -9223372036854775808 ≤ o.I ∧ o.I ≤ 9223372036854775807
end Go.Proofs.Ytmccimbfkehllaa
namespace Go.Proofs.Ytmccimbfkehllaa
open Go.ChangeShapes Go.WideShapes Go.ChangeAt Go.RowKit
set_option linter.unusedVariables false
theorem rws_of_flat {ys : List Int} {len : Nat} (hl : ys.length = len * 4) : ∃ xs : List Rw, xs.length = len ∧ flatR xs = ys := by
  refine ⟨(List.range len).map fun i => ⟨ys.getD (i * 4) 0, ys.getD (i * 4 + 1) 0, ys.getD (i * 4 + 2) 0, ys.getD (i * 4 + 3) 0⟩, by simp, list_of_getD (by rw [flatR_len]; simp [hl]) fun j hj => ?_⟩
  rw [flatR_len] at hj
  simp only [List.length_map, List.length_range] at hj
  have h1 : j / 4 < len := by omega
  have h2 : j % 4 < 4 := by omega
  have h3 := flatR_at h2 ((List.range len).map fun i => (⟨ys.getD (i * 4) 0, ys.getD (i * 4 + 1) 0, ys.getD (i * 4 + 2) 0, ys.getD (i * 4 + 3) 0⟩ : Rw)) (j / 4)
  rw [show j / 4 * 4 + j % 4 = j by omega] at h3
  rw [h3]
  have h4 : rwAt ((List.range len).map fun i => (⟨ys.getD (i * 4) 0, ys.getD (i * 4 + 1) 0, ys.getD (i * 4 + 2) 0, ys.getD (i * 4 + 3) 0⟩ : Rw)) (j / 4) = ⟨ys.getD (j / 4 * 4) 0, ys.getD (j / 4 * 4 + 1) 0, ys.getD (j / 4 * 4 + 2) 0, ys.getD (j / 4 * 4 + 3) 0⟩ := by
    unfold rwAt; rw [List.getD_eq_getElem?_getD]; simp only [List.getElem?_map, List.getElem?_range h1, Option.map_some, Option.getD_some]
  rw [h4]
  have h5 : j % 4 = 0 ∨ j % 4 = 1 ∨ j % 4 = 2 ∨ j % 4 = 3 := by omega
  rcases h5 with h | h | h | h <;> rw [h] <;> simp only [rwFl, List.getD_cons_zero, List.getD_cons_succ] <;> exact congrArg (fun z => ys.getD z 0) (by omega)
theorem StructRow.rwsA {w : World} {a : Option Addr} {len cap : Nat} (h : StructRow w 4 a len cap) : ∃ xs : List Rw, xs.length = len ∧ okI (flatR xs) ∧ RI (fun b => w.heap[b]?) (.sl (fun j => .lit (.int .i64 ((flatR xs).getD j 0))) xs.length 4) (.slice a len cap) := by
  obtain ⟨ys, h1, h2, h3⟩ := h.flat (by decide)
  obtain ⟨xs, rfl, rfl⟩ := rws_of_flat h1
  exact ⟨xs, rfl, h2, h3⟩
theorem pks_of_flat {ys : List Int} {len : Nat} (hl : ys.length = len * 2) : ∃ xs : List Pk, xs.length = len ∧ flatP xs = ys := by
  refine ⟨(List.range len).map fun i => ⟨ys.getD (i * 2) 0, ys.getD (i * 2 + 1) 0⟩, by simp, list_of_getD (by rw [flatP_len]; simp [hl]) fun j hj => ?_⟩
  rw [flatP_len] at hj
  simp only [List.length_map, List.length_range] at hj
  have h1 : j / 2 < len := by omega
  have h2 : j % 2 < 2 := by omega
  have h3 := flatP_at h2 ((List.range len).map fun i => (⟨ys.getD (i * 2) 0, ys.getD (i * 2 + 1) 0⟩ : Pk)) (j / 2)
  rw [show j / 2 * 2 + j % 2 = j by omega] at h3
  rw [h3]
  have h4 : pkAt ((List.range len).map fun i => (⟨ys.getD (i * 2) 0, ys.getD (i * 2 + 1) 0⟩ : Pk)) (j / 2) = ⟨ys.getD (j / 2 * 2) 0, ys.getD (j / 2 * 2 + 1) 0⟩ := by
    unfold pkAt; rw [List.getD_eq_getElem?_getD]; simp only [List.getElem?_map, List.getElem?_range h1, Option.map_some, Option.getD_some]
  rw [h4]
  have h5 : j % 2 = 0 ∨ j % 2 = 1 := by omega
  rcases h5 with h | h <;> rw [h] <;> simp only [pkFl, List.getD_cons_zero, List.getD_cons_succ] <;> exact congrArg (fun z => ys.getD z 0) (by omega)
theorem StructRow.pksA {w : World} {a : Option Addr} {len cap : Nat} (h : StructRow w 2 a len cap) : ∃ xs : List Pk, xs.length = len ∧ okI (flatP xs) ∧ RI (fun b => w.heap[b]?) (.sl (fun j => .lit (.int .i64 ((flatP xs).getD j 0))) xs.length 2) (.slice a len cap) := by
  obtain ⟨ys, h1, h2, h3⟩ := h.flat (by decide)
  obtain ⟨xs, rfl, rfl⟩ := pks_of_flat h1
  exact ⟨xs, rfl, h2, h3⟩
theorem RL.obj {G : Gh} {n : Nat} {x y z : Int} {a : Option Addr} {len cap : Nat} {xs : List Rw} (h : RI G.fz (.sl (fun j => .lit (.int .i64 ((flatR xs).getD j 0))) xs.length 4) (.slice a len cap)) : RA n G (obA ⟨x, y, z, xs⟩) (.agg #[.int .i64 x, .int .i64 y, .int .i64 z, .slice a len cap]) :=
  .agg [_, _, _, _] [_, _, _, _] rfl (RL.cons (.iv _ _ (.lit _)) (RL.cons (.iv _ _ (.lit _)) (RL.cons (.iv _ _ (.lit _)) (RL.cons (.iv _ _ h) (RL.nil _ _))))).2 rfl
theorem RL.case' {G : Gh} {n : Nat} {x y z : Int} {a : Option Addr} {len cap : Nat} {xs : List Pk} (h : RI G.fz (.sl (fun j => .lit (.int .i64 ((flatP xs).getD j 0))) xs.length 2) (.slice a len cap)) : RA n G (.agg [.iv (iPks xs), lt (.int .i64 x), lt (.int .i64 y), lt (.int .i64 z)]) (.agg #[.slice a len cap, .int .i64 x, .int .i64 y, .int .i64 z]) :=
  .agg [_, _, _, _] [_, _, _, _] rfl (RL.cons (.iv _ _ h) (RL.cons (.iv _ _ (.lit _)) (RL.cons (.iv _ _ (.lit _)) (RL.cons (.iv _ _ (.lit _)) (RL.nil _ _))))).2 rfl
end Go.Proofs.Ytmccimbfkehllaa
namespace Go.Proofs.Ytmccimbfkehllaa
open Go.RowKit
set_option linter.unusedVariables false
set_option linter.unusedSimpArgs false
/-- The contract: K is what stood still ahead of all own maps. -/
structure SX (P : Program) (f : FuncId) (args : List AV) (H : AHeap) (M : MS) (Q : AV → AHeap → MS → Prop) : Prop where
  callable : Callable P f
  calls : ∀ (K : Nat → Option Obj) (G : Gh) (w : World) (vs : List Value), (∀ b x, K b = some x → G.kp b = some x) → MOK K G M → Inv G H w → RL H.length G args vs → Calls P f vs.toArray w fun e w' => ∃ v r G' H' M', e = .returned v ∧ Gh.leb H.length { G with kp := K } G' ∧ MOK K G' M' ∧ H.length ≤ H'.length ∧ Inv G' H' w' ∧ RA H'.length G' r v ∧ Q r H' M'
theorem SX.mono {P : Program} {f : FuncId} {args : List AV} {H : AHeap} {M : MS} {Q Q' : AV → AHeap → MS → Prop} (h : SX P f args H M Q) (hq : ∀ r H' M', Q r H' M' → Q' r H' M') : SX P f args H M Q' :=
  ⟨h.callable, fun K G w vs hk hm hi hr => (h.calls K G w vs hk hm hi hr).mono fun e w' ⟨v, r, G', H', M', h1, h2, h3, h4, h5, h6, h7⟩ => ⟨v, r, G', H', M', h1, h2, h3, h4, h5, h6, hq _ _ _ h7⟩⟩
section
variable {P : Program} {tt : TT} {m : Nat} {Q : Exit → XS → Prop} {fr : List AV} {H : AHeap} {M : MS} {l : List Oper} {o : Oper}
def bodyXM (P : Program) (fn : Func) (load : AHeap → TypeId → AV → Option AV) (Q : AV → AHeap → MS → Prop) : Exit → XS → Prop
  | .normal, s | .ret, s => ∃ r, aresults P fn s.as (load s.H) = some r ∧ Q r s.H s.M
  | _, _ => False
theorem SX_of_body {f : FuncId} {fn : Func} {c : Code} {args : List AV} {H : AHeap} {M : MS} {Q : AV → AHeap → MS → Prop} (load : AHeap → TypeId → AV → Option AV) (hl : ∀ H, LoadOk P H (load H)) (hf : P.funcs[f]? = some fn) (hb : fn.body = some c) (hname : (fn.name == "runtime.NumGoroutine") = false)
    (h : AX P H.length c (bodyXM P fn load Q) ⟨args ++ List.replicate (fn.ntmps - args.length) uD, H, M⟩) : SX P f args H M Q := by
  refine ⟨⟨fn, hf, hname, by rw [hb]; rfl⟩, fun K G w vs hk hm hi hr => ?_⟩
  refine calls_of_wp hf hb ?_
  refine wp_mono (h { G with kp := K } G _ w (Nat.le_refl _) ⟨fun _ _ _ => rfl, fun _ _ _ => rfl, fun _ _ h => h, fun _ _ h => h, fun _ _ h => h, hk, fun b x y _ e => ⟨y, e⟩, rfl, rfl, rfl⟩ hm ⟨rfl, ?_, hi⟩) ?_
  · simp only [Array.toList_append, Array.toList_replicate]
    refine RL.append hr ⟨by simp [hr.1], fun i x v h1 h2 => ?_⟩
    rw [List.getElem?_replicate] at h1 h2
    split at h1 <;> split at h2 <;> simp_all
    subst h1 h2
    exact .iv _ _ (.lit _)
  · rintro e a w' ⟨G', s', hleb, hM', hn, hr', hq⟩
    cases e with
    | normal =>
      obtain ⟨r, h1, h2⟩ := hq
      obtain ⟨v, h3, h4⟩ := aresults_run (hl _) hr' h1
      exact ⟨hr'.defers, v, h3, v, r, G', s'.H, s'.M, rfl, hleb, hM', hn, hr'.inv, h4, h2⟩
    | ret =>
      obtain ⟨r, h1, h2⟩ := hq
      obtain ⟨v, h3, h4⟩ := aresults_run (hl _) hr' h1
      exact ⟨hr'.defers, v, h3, v, r, G', s'.H, s'.M, rfl, hleb, hM', hn, hr'.inv, h4, h2⟩
    | _ => exact hq.elim
/-- What is told without any map. -/
theorem SX.of {f : FuncId} {args : List AV} {Q : AV → AHeap → Prop} (h : SF P f args H Q) : SX P f args H M fun r H' M' => Q r H' ∧ M' = M :=
  ⟨h.callable, fun K G w vs hk hm hi hr => (h.calls G w vs hi hr).mono fun e w' ⟨v, r, G', H', h1, h2, h3, h4, h5, h6⟩ =>
    ⟨v, r, G', H', M, h1, ⟨fun o ho hd => h2.mu o hd, fun o ho hd => h2.sz o hd, fun o ho hd => h2.dom o hd, h2.back, h2.fz, fun b x e => h2.kp b x (hk b x e), fun b x y e f => h2.new b x y (hk b x e) f, h2.os, h2.tape, h2.output⟩, hm.leb (h2.leb (Nat.le_refl _)), h3, h4, h5, h6, rfl⟩⟩
/-- Where no map was handed over: what is handed back needs none. -/
theorem SX.sf {f : FuncId} {args : List AV} {Q : AV → AHeap → MS → Prop} (h : SX P f args H [] Q) : SF P f args H fun r H' => ∃ M', Q r H' M' :=
  ⟨h.callable, fun G w vs hi hr => (h.calls G.kp G w vs (fun _ _ e => e) (.nil _ _) hi hr).mono fun e w' ⟨v, r, G', H', M', h1, h2, h3, h4, h5, h6, h7⟩ =>
    ⟨v, r, G', H', h1, h2.le hi.dom, h4, h5, h6, M', h7⟩⟩
theorem leb_call {G0 G G' : Gh} (hm : m ≤ H.length) (hl : Gh.leb m G0 G) (h : Gh.leb H.length { G with kp := G0.kp } G') : Gh.leb m G0 G' :=
  Gh.leb.trans (b := { G with kp := G0.kp }) ⟨hl.mu, hl.sz, hl.dom, hl.back, hl.fz, fun _ _ e => e, hl.new, hl.os, hl.tape, hl.output⟩
    ⟨fun o ho => h.mu o (Nat.lt_of_lt_of_le ho hm), fun o ho => h.sz o (Nat.lt_of_lt_of_le ho hm), fun o ho => h.dom o (Nat.lt_of_lt_of_le ho hm), fun o ho => h.back o (Nat.lt_of_lt_of_le ho hm), h.fz, h.kp, h.new, h.os, h.tape, h.output⟩
theorem RL.kpany {n : Nat} {G : Gh} {kp : Nat → Option Obj} {xs : List AV} {vs : List Value} (h : RL n G xs vs) : RL n { G with kp := kp } xs vs := ⟨h.1, fun i x v e e' => (h.2 i x v e e').kpany⟩
theorem Rst.call {G0 G G' : Gh} {s : AS} {H' : AHeap} {a : Act} {w w' : World} {x : AV} {v : Value} {kp : Nat → Option Obj} (hr : Rst G s a w) (h : Gh.leb s.H.length { G with kp := kp } G') (hn : s.H.length ≤ H'.length) (hi : Inv G' H' w') (hx : RA H'.length G' x v) (d : Option Tmp) : Rst G' ⟨putL s.fr d x, H'⟩ (a.put d v) w' := by
  have hle : Gh.le s.H.length { G with kp := kp } G' := h.le hr.inv.dom
  have hfr : RL H'.length G' s.fr a.tmps.toList := (RL.kpany (kp := kp) hr.fr).mono hle hn
  refine ⟨?_, ?_, hi⟩
  · cases d <;> exact hr.defers
  · cases d with
    | none => exact hfr
    | some d =>
      simp only [putL, Act.put, Array.toList_setIfInBounds]
      exact hfr.set d hx
/-- What is told of the end may be told behind a change of words. -/
theorem AX_late {c : Code} {s : XS} (h : AX P m c (fun e s => LeadX m s (Q e)) s) : AX P m c Q s := fun G0 G a w hm hl hM hr =>
  wp_mono (h G0 G a w hm hl hM hr) fun e a w ⟨G', s', h1, h2, h3, h4, h5⟩ => h5 G0 G' a w h3 h1 h2 h4
theorem SF_of_bodyL {f : FuncId} {fn : Func} {c : Code} {args : List AV} {H : AHeap} {Q : AV → AHeap → Prop} (load : AHeap → TypeId → AV → Option AV) (hl : ∀ H, LoadOk P H (load H)) (hf : P.funcs[f]? = some fn) (hb : fn.body = some c) (hname : (fn.name == "runtime.NumGoroutine") = false)
    (h : AX P H.length c (fun e s => LeadX H.length s (bodyX P fn load Q e)) ⟨args ++ List.replicate (fn.ntmps - args.length) uD, H, []⟩) : SF P f args H Q := SF_of_bodyX load hl hf hb hname (AX_late h)
theorem SX_of_bodyL {f : FuncId} {fn : Func} {c : Code} {args : List AV} {H : AHeap} {M : MS} {Q : AV → AHeap → MS → Prop} (load : AHeap → TypeId → AV → Option AV) (hl : ∀ H, LoadOk P H (load H)) (hf : P.funcs[f]? = some fn) (hb : fn.body = some c) (hname : (fn.name == "runtime.NumGoroutine") = false)
    (h : AX P H.length c (fun e s => LeadX H.length s (bodyXM P fn load Q e)) ⟨args ++ List.replicate (fn.ntmps - args.length) uD, H, M⟩) : SX P f args H M Q := SX_of_body load hl hf hb hname (AX_late h)
theorem lead_drop {fr : List AV} {S : XS → Prop} (sel ds : List Nat) (H1 : AHeap) (hs1 : sel.Nodup) (hs2 : sel.all (fun p => decide (m ≤ p)) = true) (hH : okH (named m sel) (H.take m ++ sel.map (atH H)) = true) (hF : okF (named m sel) ds 0 fr = true)
    (hh : selH m sel H = H1) (h : ∀ d : Nat → AV, S ⟨deadS (fr.map (AV.rn (newNo m sel))) d ds, H1, M⟩) : LeadX m ⟨fr, H, M⟩ S :=
  LeadX.of (.ren sel ds hs1 hs2 hH hF fun d => by rw [hh]; exact h _)
theorem XRes_callvX {d : Option Tmp} {fo : Operand} {args : Array Operand} {tys : Array TypeId} {ty : TypeId} {pos : String} {after : Array Edge} {g : Option (Nat × Bool)}
    (hw : wantedS fr ⟨d, .call { callee := .value fo, args := args, argTypes := tys }, ty, pos, after, g⟩ = some true)
    {f : FuncId} {first caps : List AV} (hf : AS.ev ⟨fr, H⟩ fo = .fn f first caps) {K : AV → AHeap → MS → Prop} (hc : SX P f (first ++ args.toList.map (AS.ev ⟨fr, H⟩) ++ caps) H M K)
    (h : ∀ r H' M', K r H' M' → XRes P m Q (l, ⟨putL fr d r, H', M'⟩)) : XRes P m Q (⟨d, .call { callee := .value fo, args := args, argTypes := tys }, ty, pos, after, g⟩ :: l, ⟨fr, H, M⟩) := fun n hn G0 G a w hm hl hM hr => by
  unfold wpList
  rw [if_pos (hr.wanted (ops := idB n) (b := true) (by rw [wantedS_ok hn]; exact hw))]
  refine .inl ?_
  have hfe := hr.ev fo
  rw [hf] at hfe
  generalize hfv : a.eval fo = fv at hfe
  cases hfe with
  | fn _ _ _ vs us h1 h2 h3 h4 =>
    have hargs : RL H.length G (first ++ args.toList.map (AS.ev ⟨fr, H⟩) ++ caps) (vs ++ args.toList.map a.eval ++ us) := RL.append (RL.append ⟨h1, h3⟩ (AS.args hr _)) ⟨h2, h4⟩
    have hrun : (execOp a.eval ⟨d, .call { callee := .value fo, args := args, argTypes := tys }, ty, pos, after, g⟩).run P w = .ok (.enter f (vs ++ args.toList.map a.eval ++ us).toArray) w := by
      have e : (vs ++ args.toList.map a.eval ++ us).toArray = vs.toArray ++ args.map a.eval ++ us.toArray := by
        apply Array.toList_inj.1; simp
      rw [e]
      simp [execOp, resolve, hfv, Deferred.ofValue, invoke, run_enter hc.callable]
    unfold Oper.wp
    rw [hrun]
    refine (hc.calls G0.kp G w _ hl.kp hM hr.inv hargs).mono fun e w' hp => ?_
    obtain ⟨v, r, G', H', M', rfl, hle, hM', hn', hi, hx, hk⟩ := hp
    exact h r H' M' hk n (by show (putL _ _ _).length ≤ n; rw [putL_len]; exact hn) G0 G' _ w' (Nat.le_trans hm hn') (leb_call hm hl hle) hM' (hr.call (G0 := G0) hle hn' hi hx d)
theorem XRes_fnX {d : Option Tmp} {f : FuncId} {args : Array Operand} {tys : Array TypeId} {ty : TypeId} {pos : String} {after : Array Edge} {g : Option (Nat × Bool)}
    (hw : wantedS fr ⟨d, .call { callee := .value (.func f), args := args, argTypes := tys }, ty, pos, after, g⟩ = some true) {K : AV → AHeap → MS → Prop} (hc : SX P f (args.toList.map (AS.ev ⟨fr, H⟩)) H M K)
    (h : ∀ r H' M', K r H' M' → XRes P m Q (l, ⟨putL fr d r, H', M'⟩)) : XRes P m Q (⟨d, .call { callee := .value (.func f), args := args, argTypes := tys }, ty, pos, after, g⟩ :: l, ⟨fr, H, M⟩) :=
  XRes_callvX hw rfl (by simpa using hc) h
theorem XRes_slotX {d : Option Tmp} {t : Tmp} {args : Array Operand} {tys : Array TypeId} {ty : TypeId} {pos : String} {after : Array Edge} {g : Option (Nat × Bool)}
    (hw : wantedS fr ⟨d, .call { callee := .value (.tmp t), args := args, argTypes := tys }, ty, pos, after, g⟩ = some true)
    {f : FuncId} {first caps : List AV} (hf : fr[t]? = some (.fn f first caps)) {K : AV → AHeap → MS → Prop} (hc : SX P f (first ++ args.toList.map (AS.ev ⟨fr, H⟩) ++ caps) H M K)
    (h : ∀ r H' M', K r H' M' → XRes P m Q (l, ⟨putL fr d r, H', M'⟩)) : XRes P m Q (⟨d, .call { callee := .value (.tmp t), args := args, argTypes := tys }, ty, pos, after, g⟩ :: l, ⟨fr, H, M⟩) :=
  XRes_callvX hw (by show fr.getD t uD = _; rw [List.getD_eq_getElem?_getD, hf]; rfl) hc h
end
end Go.Proofs.Ytmccimbfkehllaa
