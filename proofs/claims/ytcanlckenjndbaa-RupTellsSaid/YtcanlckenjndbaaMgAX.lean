import Derived.Test.YtcanlckenjndbaaMgAW
import Derived.Test.YtcanlckenjndbaaMgAQ
import Derived.Test.YtcanlckenjndbaaMgAS
namespace Go.Proofs.Ytcanlckenjndbaa
open Go.RowKit
set_option linter.unusedVariables false
set_option linter.unusedSimpArgs false
theorem PF_of_ownO {P : Program} {f : FuncId} {args : List AV} {xs : List Int} (hc : Callable P f) (h : ∀ G w vs, Inv G [] w → RL 0 G args vs → Calls P f vs.toArray w fun e w' => ∃ v, e = .returned v ∧ OwnInts w' w.heap.size v xs ∧ Below w.heap.size w w') : PF P f args fun r H' => r = .osl 0 0 xs.length 1 ∧ H' = [some ⟨3, xs.map lint⟩] :=
  ⟨hc, fun G w vs hi hr => (h G w vs hi hr).mono fun e w' ⟨v, h1, h2, h3⟩ => by
    have nod : ∀ o, ¬ G.dom o := fun o ho => by have := hi.dom o ho; simp at this
    have old : ∀ {b : Nat} {x : Obj}, w.heap[b]? = some x → w'.heap[b]? = some x := fun {b x} e => (h3.block b (lt_of_heap e)).trans e
    obtain ⟨k1, k2⟩ := h2
    rcases k2 with ⟨hv, hn⟩ | ⟨g, cap, cur, hv, hg, hh, hn, hm, hs, hx⟩
    · have hnil : xs = [] := List.length_eq_zero_iff.1 hn
      subst hnil
      refine ⟨v, _, { G with dom := fun o => o = 0, mu := fun _ => (0, 0), sz := fun _ => 0 }, _, h1, ⟨fun o ho => absurd ho (nod o), fun o ho => absurd ho (nod o), fun o ho => absurd ho (nod o), fun o ho => absurd ho (Nat.not_lt_zero o), fun _ _ e => e, fun _ _ e => e, fun b x y _ e => ⟨y, e⟩, rfl, rfl, rfl⟩, Nat.zero_le _, ⟨h3.os.trans hi.os, h3.tape.trans hi.tape, h3.output.trans hi.output, fun b x e => old (hi.fz b x e), fun b x e => old (hi.kp b x e), fun o ho => ?_, fun o x e => ?_, fun o x e => ?_, fun o o' x x' e e' hne z => absurd rfl z⟩, ?_, rfl, rfl⟩
      · have : o = 0 := ho
        subst this; simp
      · rcases o with _ | o
        · rfl
        · simp at e
      · rcases o with _ | o
        · simp at e; subst e; exact .inl ⟨rfl, rfl⟩
        · simp at e
      · rw [hv]; exact .onil 0 0 1 rfl
    · have hxl : (xs.map lint).length = xs.length := by simp
      have hcs : cur.size = cap := by rw [hs, Nat.mul_one]
      refine ⟨v, _, { G with dom := fun o => o = 0, mu := fun _ => (g, 0), sz := fun _ => cap }, _, h1, ⟨fun o ho => absurd ho (nod o), fun o ho => absurd ho (nod o), fun o ho => absurd ho (nod o), fun o ho => absurd ho (Nat.not_lt_zero o), fun _ _ e => e, fun _ _ e => e, fun b x y _ e => ⟨y, e⟩, rfl, rfl, rfl⟩, Nat.zero_le _, ⟨h3.os.trans hi.os, h3.tape.trans hi.tape, h3.output.trans hi.output, fun b x e => old (hi.fz b x e), fun b x e => old (hi.kp b x e), fun o ho => ?_, fun o x e => ?_, fun o x e => ?_, fun o o' x x' e e' hne z => ?_⟩, ?_, rfl, rfl⟩
      · have : o = 0 := ho
        subst this; simp
      · rcases o with _ | o
        · rfl
        · simp at e
      · rcases o with _ | o
        · simp at e; subst e
          by_cases hc0 : cap = 0
          · have hx0 : xs = [] := List.eq_nil_of_length_eq_zero (by omega : xs.length = 0)
            subst hx0
            exact .inl ⟨rfl, hc0⟩
          · refine .inr ⟨hc0, cur, hh, hcs, ⟨?_, fun i y u e1 e2 => ?_⟩, ?_, ?_, ?_⟩
            · show (xs.map lint).length = ((cur.toList.drop 0).take (xs.map lint).length).length
              simp; omega
            · have e2' : ((cur.toList.drop 0).take (xs.map lint).length)[i]? = some u := e2
              have e1' : (xs.map lint)[i]? = some y := e1
              rw [List.drop_zero, hxl, ← Nat.mul_one xs.length, hx, List.getElem?_map] at e2'
              rw [List.getElem?_map] at e1'
              obtain ⟨z, hz, rfl⟩ := Option.map_eq_some_iff.1 e1'
              rw [hz] at e2'
              simp at e2'; subst e2'
              exact .iv _ _ (.lit _)
            · show (xs.map lint).all AV.one = true
              rw [List.all_eq_true]; intro y hy; obtain ⟨z, _, rfl⟩ := List.mem_map.1 hy; rfl
            · show G.fz g = none
              cases hc : G.fz g with
              | none => rfl
              | some y => have := lt_of_heap (hi.fz g y hc); omega
            · show G.kp g = none
              cases hc : G.kp g with
              | none => rfl
              | some y => have := lt_of_heap (hi.kp g y hc); omega
        · simp at e
      · rcases o with _ | o
        · rcases o' with _ | o'
          · exact absurd rfl hne
          · simp at e'
        · simp at e
      · rw [hv]
        exact .osl 0 0 xs.length 1 g 0 cap rfl rfl (fun _ => rfl) hn hm (fun _ => by show 0 + cap * 1 ≤ cap; omega)⟩
theorem pf_CloneO (xs : List Int) (hl : xs.length ≤ 1000000) : PF Try.prog 63 [.iv (iInts xs)] fun r H' => r = .osl 0 0 xs.length 1 ∧ H' = [some ⟨3, xs.map lint⟩] :=
  PF_of_ownO ⟨_, Try.func63, by kernel_rfl, rfl⟩ fun G w vs hi hr => by
    obtain ⟨v1, us, rfl, h1, hr⟩ := hr.uncons
    rw [hr.unnil]
    cases h1 with
    | iv _ _ h1 =>
      obtain ⟨b, cb, rfl, _, _, h4⟩ := ints_row hi.fz (by unfold maxLen; omega) h1
      exact sl_Clone b _ cb xs w h4 (by omega)
end Go.Proofs.Ytcanlckenjndbaa
namespace Go.Proofs.Ytcanlckenjndbaa
open Go.RowKit
set_option linter.unusedVariables false
set_option linter.unusedSimpArgs false
variable {P : Program} {tt : TT} {m : Nat} {Q : Exit → XS → Prop} {fr : List AV} {H : AHeap} {M : MS} {l : List Oper}
def FullAt (a : Act) (d : Nat) : Prop := ∃ A k, a.eval (.tmp d) = .slice A k k
def XResF (P : Program) (m : Nat) (Q : Exit → XS → Prop) (d1 : Nat) (p : List Oper × XS) : Prop := ∀ n, p.2.fr.length ≤ n → ∀ G0 G a w, FullAt a d1 → m ≤ p.2.H.length → Gh.leb m G0 G → MOK G0.kp G p.2.M → Rst G p.2.as a w → wpList P (idB n) (PostX m G0 Q) p.1 a w
theorem put_eval {a : Act} {d : Nat} {v : Value} (h : d < a.tmps.size) : (a.put (some d) v).eval (.tmp d) = v := by
  simp [Act.put, Act.eval, Array.getD, h]
theorem put_eval_ne {a : Act} {o : Option Tmp} {d : Nat} {v : Value} (h : o ≠ some d) : (a.put o v).eval (.tmp d) = a.eval (.tmp d) := by
  cases o with
  | none => rfl
  | some j =>
    have hj : j ≠ d := fun e => h (by rw [e])
    show (a.tmps.setIfInBounds j v).getD d undef = a.tmps.getD d undef
    rw [Array.getD_eq_getD_getElem?, Array.getD_eq_getD_getElem?, Array.getElem?_setIfInBounds_ne hj]
theorem full_bounds {len cap : Nat} (h : len ≤ cap) (w : World) : (Instr.sliceBounds true len cap none (some (.int .i64 (len : Int))) (some (.int .i64 (len : Int)))).run P w = .ok (0, len, len) w := by
  have h1 := fun c => sliceBound_run (P := P) (k := .i64) (i := (len : Int)) (y := cap) (code := c) (by omega) (by omega) w
  have h2 := fun c => sliceBound_run (P := P) (k := .i64) (i := (len : Int)) (y := len) (code := c) (by omega) (by omega) w
  simp only [Int.toNat_natCast] at h1 h2
  simp [Instr.sliceBounds, h1, h2]
theorem XRes_full (hT : TyOK P tt) {d1 : Nat} {t e : TypeId} {x y z : Operand} {ty : TypeId} {pos : String} {after : Array Edge} {g : Option (Nat × Bool)} {r1 r2 : TyRow} {get : Nat → IV} {len sz : Nat}
    (hw : wantedS fr ⟨some d1, .slice t x none (some y) (some z), ty, pos, after, g⟩ = some true) (hd1 : d1 < fr.length) (ht : tt t = some r1) (hk : r1.kind = .sl e) (he : tt e = some r2)
    (hx : AS.ev ⟨fr, H⟩ x = .iv (.sl get len sz)) (hy : AS.ev ⟨fr, H⟩ y = lt (.int .i64 (len : Int))) (hz : AS.ev ⟨fr, H⟩ z = lt (.int .i64 (len : Int)))
    (h : XResF P m Q d1 (l, ⟨putL fr (some d1) (.iv (.sl get len sz)), H, M⟩)) : XRes P m Q (⟨some d1, .slice t x none (some y) (some z), ty, pos, after, g⟩ :: l, ⟨fr, H, M⟩) := fun n hn G0 G a w hm hl hMM hr => by
  obtain ⟨ii, d, z0, hi1, hd, _, e1⟩ := hT.row ht
  have e1 : r1 = ⟨kindOf d, _, _, _⟩ := e1
  rw [e1] at hk
  have hd' := kind_sl hk; subst hd'
  obtain ⟨i', d', z', hi', hd', hz', e2⟩ := hT.row he
  unfold wpList
  rw [if_pos (hr.wanted (ops := idB n) (b := true) (by rw [wantedS_ok hn]; exact hw))]
  refine .inl ?_
  have hx' := hr.ev x
  have hxe : AS.ev (XS.as ⟨fr, H, M⟩) x = .iv (.sl get len sz) := hx
  rw [hxe] at hx'
  have hy' := hr.ev y
  have hye : AS.ev (XS.as ⟨fr, H, M⟩) y = lt (.int .i64 (len : Int)) := hy
  rw [hye] at hy'
  have hz1 := hr.ev z
  have hze : AS.ev (XS.as ⟨fr, H, M⟩) z = lt (.int .i64 (len : Int)) := hz
  rw [hze] at hz1
  have ey := hy'.lit_inv; have ez := hz1.lit_inv
  have hsz : a.tmps.size = fr.length := by have := hr.fr.1; simpa using this.symm
  have fin : ∀ v, (∃ A k, v = Value.slice A k k) → RA H.length G (.iv (.sl get len sz)) v → wpList P (idB n) (PostX m G0 Q) l (a.put (some d1) v) w := fun v ⟨A, k, ev⟩ hv =>
    h n (by show (putL fr (some d1) (.iv (.sl get len sz))).length ≤ n; rw [putL_len]; exact hn) G0 G _ w ⟨A, k, by rw [put_eval (by omega)]; exact ev⟩ hm hl hMM (hr.put (Gh.le.refl _ _) (Nat.le_refl _) hr.inv hv (some d1))
  unfold Oper.wp
  generalize hav : a.eval x = xv at hx'
  cases hx' with
  | iv _ _ hv =>
    cases hv with
    | nil _ _ cap hc =>
      have hb : (Instr.sliceBounds true 0 cap none (some (.int .i64 0)) (some (.int .i64 0))).run P w = .ok (0, 0, 0) w := full_bounds (P := P) (len := 0) (cap := cap) (Nat.zero_le _) w
      have ey : a.eval y = .int .i64 0 := ey
      have ez : a.eval z = .int .i64 0 := ez
      have hrun : (execOp a.eval ⟨some d1, .slice t x none (some y) (some z), ty, pos, after, g⟩).run P w = .ok (.value (.slice none 0 0)) w := by
        simp [execOp, Instr.sliceAt, Instr.slice, hav, ey, ez, run_underlying hd, hb, sizeOf_run hi']
      rw [hrun]
      exact fin _ ⟨_, _, rfl⟩ (.iv _ _ (.nil _ _ 0 (Nat.zero_le _)))
    | empty _ _ ad cap hc =>
      have hb : (Instr.sliceBounds true 0 cap none (some (.int .i64 0)) (some (.int .i64 0))).run P w = .ok (0, 0, 0) w := full_bounds (P := P) (len := 0) (cap := cap) (Nat.zero_le _) w
      have ey : a.eval y = .int .i64 0 := ey
      have ez : a.eval z = .int .i64 0 := ez
      have hrun : (execOp a.eval ⟨some d1, .slice t x none (some y) (some z), ty, pos, after, g⟩).run P w = .ok (.value (.slice (some ad) 0 0)) w := by
        simp [execOp, Instr.sliceAt, Instr.slice, hav, ey, ez, run_underlying hd, hb, sizeOf_run hi']
      rw [hrun]
      exact fin _ ⟨_, _, rfl⟩ (.iv _ _ (.empty _ _ _ 0 (Nat.zero_le _)))
    | sl _ _ _ b off cap cs t2 f2 vs h1 h2 h3 h4 h5 =>
      have hb := full_bounds (P := P) h4 w
      have hrun : (execOp a.eval ⟨some d1, .slice t x none (some y) (some z), ty, pos, after, g⟩).run P w = .ok (.value (.slice (some ⟨b, off, none⟩) len len)) w := by
        simp [execOp, Instr.sliceAt, Instr.slice, hav, ey, ez, run_underlying hd, hb, sizeOf_run hi', Addr.add]
      rw [hrun]
      exact fin _ ⟨_, _, rfl⟩ (.iv _ _ (.sl _ _ _ b off len cs t2 f2 vs h1 h2 h3 (Nat.le_refl _) (by omega)))
theorem XResF_op (hT : TyOK P tt) {d1 : Nat} {o : Oper} (hw : wantedS fr o = some true) (hd : o.dst ≠ some d1) (h : match aop tt ⟨fr, H⟩ o with | some (x, H') => XResF P m Q d1 (l, ⟨putL fr o.dst x, H', M⟩) | none => False) : XResF P m Q d1 (o :: l, ⟨fr, H, M⟩) := by
  cases hx : aop tt ⟨fr, H⟩ o with
  | none => rw [hx] at h; exact h.elim
  | some p =>
    obtain ⟨x, H'⟩ := p
    rw [hx] at h
    intro n hn G0 G a w ⟨A, k, hf⟩ hm hl hM hr
    unfold wpList
    rw [if_pos (hr.wanted (ops := idB n) (o := o) (b := true) (by rw [wantedS_ok hn]; exact hw))]
    obtain ⟨G', v, w', hrun, hle, hn', hi, hx2⟩ := aop_gives hT hx G a w hr
    have hr' := hr.put hle hn' hi hx2 o.dst
    have hl' := h n (by show (putL _ _ _).length ≤ n; rw [putL_len]; exact hn) G0 G' _ w' ⟨A, k, by rw [put_eval_ne hd]; exact hf⟩ (Nat.le_trans hm hn') (hl.trans (hle.leb hm)) (hM.leb (hle.leb hm)) hr'
    refine .inl ?_
    unfold Oper.wp
    rcases hrun with hrun | ⟨hrun, rfl⟩
    · rw [hrun]; exact hl'
    · rw [hrun]; exact hl'
theorem append_full_ok {call : Value → Sem Value} {e : TypeId} {i : TypeInfo} {z : Value} (hs0 : i.size ≠ 0) (hzs : z.cells.size = i.size) {G : Gh} {w : World} {k n : Nat} {A : Option Addr} {os xs : List AV} {olds news : List Value} (hI : Inv G H w) (h : AppRuns P call e i z w k news) (hx : RL H.length G xs news) (h1 : xs.all AV.one = true) (hl : news.length = k * i.size)
    (hA : NewsAt w (.slice A n n) n olds) (ho : RL H.length G os olds) (h2 : os.all AV.one = true) (hol : os.length = n * i.size) (hk : 0 < k) (hb : (n + k) * i.bytes ≤ 140737488355328) (hm : n + k ≤ 9223372036854775807) :
    ∃ G' v' w', (call (.slice A n n)).run P w = .ok v' w' ∧ Gh.le H.length G G' ∧ Inv G' (H ++ [some ⟨e, os ++ xs⟩]) w' ∧ RA (H.length + 1) G' (.osl H.length 0 (n + k) i.size) v' := by
  obtain ⟨A', c, e1, k1, k2⟩ := hA
  simp only [Value.slice.injEq] at e1
  obtain ⟨rfl, _, rfl⟩ := e1
  have hcap := grownCap_ge w (n + k) n e
  have hcap2 := grownCap_le_maxLen w (n + k) n e (by unfold maxLen; omega)
  have holl : olds.length = n * i.size := by rw [← ho.1]; exact hol
  have hsz : (olds.toArray ++ news.toArray ++ Builtin.zeroCells z.cells (grownCap w (n + k) n e - (n + k))).size = grownCap w (n + k) n e * i.size := by
    rw [Array.size_append, Array.size_append, size_zeroCells, hzs, List.size_toArray, List.size_toArray, hl, holl, ← Nat.add_mul, ← Nat.add_mul]; congr 1; omega
  have hal := hI.drew.alloc e (os ++ xs) (olds.toArray ++ news.toArray ++ Builtin.zeroCells z.cells (grownCap w (n + k) n e - (n + k))) (by
    rw [Array.toList_append, Array.toList_append, take_append_self _ _ (by simp [hx.1, ho.1])]
    exact RL.append ho hx) (all_append h2 h1)
  have fin : ∀ v', v' = Value.slice (some ⟨w.heap.size, 0, none⟩) (n + k) (grownCap w (n + k) n e) → RA (H.length + 1) (G.more H.length (w.drew.heap.size, 0) (olds.toArray ++ news.toArray ++ Builtin.zeroCells z.cells (grownCap w (n + k) n e - (n + k))).size) (.osl H.length 0 (n + k) i.size) v' := fun v' ev => by
    subst ev
    exact .osl _ _ _ _ _ _ _ (.inl rfl) (by simp [Gh.more]) (fun _ => by simp [Gh.more]) (by omega) hcap2 (fun _ => by simp only [Gh.more, if_true]; rw [hsz]; omega)
  cases A with
  | none =>
    obtain rfl := k1 rfl
    have holds : olds = [] := List.length_eq_zero_iff.1 (by simpa using holl)
    have hrun := h.nil hk (by omega) (by simpa using hb)
    subst holds
    refine ⟨_, _, _, ?_, G.more_le (Nat.le_refl _) hI.new _ _, hal, fin _ rfl⟩
    rw [hrun]
    simp
  | some b =>
    have hrun := h.grow hk b n n olds holl (k2 b rfl) (by omega) (by omega) hb
    exact ⟨_, _, _, hrun, G.more_le (Nat.le_refl _) hI.new _ _, hal, fin _ rfl⟩
theorem XResF_app (hT : TyOK P tt) {d1 : Nat} {t e : TypeId} {y : Operand} {d : Option Tmp} {ty : TypeId} {pos : String} {after : Array Edge} {g : Option (Nat × Bool)} {r1 r2 : TyRow} {os xs : List AV} {n k sz : Nat}
    (hw : wantedS fr ⟨d, .call { callee := .builtin .append, args := #[.tmp d1, y], argTypes := #[t, t] }, ty, pos, after, g⟩ = some true) (ht : tt t = some r1) (hk : r1.kind = .sl e) (he : tt e = some r2)
    (hx : anews H (AS.ev ⟨fr, H⟩ (.tmp d1)) = some (os, n, r2.size)) (hy : anews H (AS.ev ⟨fr, H⟩ y) = some (xs, k, sz)) (hk0 : 0 < k) (hs : sz = r2.size) (h0 : r2.size ≠ 0) (hz0 : r2.zero.length = r2.size) (hb : (n + k) * r2.bytes ≤ 140737488355328) (hm2 : n + k ≤ 9223372036854775807)
    (h : XRes P m Q (l, ⟨putL fr d (.osl H.length 0 (n + k) r2.size), H ++ [some ⟨e, os ++ xs⟩], M⟩)) : XResF P m Q d1 (⟨d, .call { callee := .builtin .append, args := #[.tmp d1, y], argTypes := #[t, t] }, ty, pos, after, g⟩ :: l, ⟨fr, H, M⟩) := fun nn hn G0 G a w ⟨A, q, hf⟩ hm hl hMM hr => by
  obtain ⟨ii, d', z0, hi1, hd, _, e1⟩ := hT.row ht
  rw [e1] at hk
  have hd' := kind_sl hk; subst hd'
  obtain ⟨i', d2, z', hi', hd2, hz', e2⟩ := hT.row he
  subst e2
  subst hs
  obtain ⟨olds, q1, q2, q3, q4⟩ := anews_ok hx hr.inv (hr.ev (.tmp d1))
  obtain ⟨news, p1, p2, p3, p4⟩ := anews_ok hy hr.inv (hr.ev y)
  rw [hf] at q1
  have hq : q = n := by
    obtain ⟨A1, c1, e3, _⟩ := q1
    simp only [Value.slice.injEq] at e3; exact e3.2.1
  subst hq
  have hp4 : news.length = k * i'.size := by rw [← p2.1]; exact p4
  obtain ⟨G', v', w', a1, a2, a3, a4⟩ := append_full_ok (H := H) h0 (by have := hz0; simpa using this) hr.inv (p1.runs (P := P) (t := t) (ty := ty) hd hi' hz' hp4) p2 p3 hp4 q1 q2 q3 q4 hk0 hb hm2
  unfold wpList
  rw [if_pos (hr.wanted (ops := idB nn) (b := true) (by rw [wantedS_ok hn]; exact hw))]
  refine .inl ?_
  have hrun : (execOp a.eval ⟨d, .call { callee := .builtin .append, args := #[.tmp d1, y], argTypes := #[t, t] }, ty, pos, after, g⟩).run P w = .ok (.value v') w' := by
    simp [execOp, resolve, invoke, builtin, hf, a1]
  unfold Oper.wp
  rw [hrun]
  have hlen : H.length ≤ (H ++ [some (AObj.mk e (os ++ xs))]).length := by simp
  exact h nn (by show (putL _ _ _).length ≤ nn; rw [putL_len]; exact hn) G0 G' _ w' (Nat.le_trans hm hlen) (hl.trans (a2.leb hm)) (hMM.leb (a2.leb hm)) (hr.put a2 hlen a3 (by simpa using a4) d)
end Go.Proofs.Ytcanlckenjndbaa
namespace Go.Proofs.Ytcanlckenjndbaa
set_option linter.unusedVariables false
inductive Dv (cs : List (List Int)) (l0 : List Int) : List Nat → List Int → Prop
  | nil : Dv cs l0 [] l0
  | snoc {is : List Nat} {L : List Int} {i : Nat} : Dv cs l0 is L → i < cs.length → aCl L (cs.getD i []) ≠ -1 → aUnitOk L (cs.getD i []) = true → Dv cs l0 (is ++ [i]) (L ++ [aUnit L (cs.getD i [])])
variable {cs : List (List Int)} {l0 L : List Int} {is : List Nat}
theorem Dv.len (h : Dv cs l0 is L) : L.length = l0.length + is.length := by
  induction h with
  | nil => simp
  | snoc _ _ _ _ ih => simp; omega
theorem Dv.chn (h : Dv cs l0 is L) : ∀ rest n, chn l0 (is.map (fun i => cs.getD i []) ++ rest) n = chn L rest (n + is.length) := by
  induction h with
  | nil => intro rest n; simp
  | @snoc is L i _ hi h1 h2 ih =>
    intro rest n
    rw [List.map_append, List.append_assoc, ih]
    show Go.Proofs.Ytcanlckenjndbaa.chn L (cs.getD i [] :: rest) _ = _
    rw [Go.Proofs.Ytcanlckenjndbaa.chn, if_neg h1, if_pos h2, List.length_append, List.length_singleton, Nat.add_assoc]
theorem Dv.sub (h : Dv cs l0 is L) : ∀ x ∈ l0, x ∈ L := by
  induction h with
  | nil => exact fun _ h => h
  | snoc _ _ _ _ ih => exact fun x hx => List.mem_append.2 (.inl (ih x hx))
def Con (L : List Int) : Prop := ∀ x, x ∈ L → lvar x ≠ 0 ∧ -x ∉ L
theorem aUnit_open {L c : List Int} (h : aUnitOk L c = true) : aUnit L c ∈ c ∧ aUnit L c ∉ L ∧ -(aUnit L c) ∉ L ∧ lvar (aUnit L c) ≠ 0 := by
  obtain ⟨u, _, h1, h2, h3, h4⟩ := aUnit_is h
  rw [h1]
  unfold aVal at h4
  rw [if_neg h3] at h4
  refine ⟨h2, fun hm => ?_, fun hm => ?_, h3⟩
  · rw [if_pos ((lhas_mem _ _).2 hm)] at h4; omega
  · by_cases e : lhas L u = true
    · rw [if_pos e] at h4; omega
    · rw [if_neg e, if_pos ((lhas_mem _ _).2 hm)] at h4; omega
def mOut (cs : List (List Int)) (L : List Int) : Nat := (cs.flatten.filter fun x => !lhas L x).length
theorem filter_lt {xs : List Int} {p q : Int → Bool} (h : ∀ x, q x = true → p x = true) {z : Int} (hz : z ∈ xs) (h1 : p z = true) (h2 : q z = false) : (xs.filter q).length < (xs.filter p).length := by
  induction xs with
  | nil => cases hz
  | cons x xs ih =>
    have hle : ∀ l : List Int, (l.filter q).length ≤ (l.filter p).length := fun l => by
      induction l with
      | nil => simp
      | cons y l ih2 =>
        rw [List.filter_cons, List.filter_cons]
        by_cases e : q y = true
        · rw [if_pos e, if_pos (h y e)]; simp; exact ih2
        · rw [if_neg e]; split
          · simp; omega
          · exact ih2
    rw [List.filter_cons, List.filter_cons]
    rcases List.mem_cons.1 hz with e | e
    · subst e
      rw [if_pos h1, if_neg (by rw [h2]; decide)]
      have := hle xs
      simp; omega
    · have := ih e
      by_cases e2 : q x = true
      · rw [if_pos e2, if_pos (h x e2)]; simp; exact this
      · rw [if_neg e2]; split
        · simp; omega
        · exact this
theorem mOut_lt {L : List Int} {i : Nat} (hi : i < cs.length) (h : aUnitOk L (cs.getD i []) = true) : mOut cs (L ++ [aUnit L (cs.getD i [])]) < mOut cs L := by
  obtain ⟨k1, k2, _, _⟩ := aUnit_open h
  have hm : cs.getD i [] ∈ cs := by simp [List.getD, hi]
  refine filter_lt (z := aUnit L (cs.getD i [])) (fun x hx => ?_) (List.mem_flatten.2 ⟨_, hm, k1⟩) ?_ ?_
  · rw [lhas_snoc] at hx
    cases e : lhas L x
    · rfl
    · rw [e] at hx; simp at hx
  · have : lhas L (aUnit L (cs.getD i [])) = false := by
      cases e : lhas L (aUnit L (cs.getD i []))
      · rfl
      · exact absurd ((lhas_mem _ _).1 e) k2
    rw [this]; rfl
  · rw [lhas_snoc]; simp
def Shut (cs : List (List Int)) (L : List Int) : Prop := ∀ i, i < cs.length → aCl L (cs.getD i []) ≠ -1 ∧ aUnitOk L (cs.getD i []) = false
def HintP (cs : List (List Int)) (c : List Int) (hs : List Nat) (ok : Bool) : Prop :=
  if stE c ≠ 0 then ok = false ∧ hs = [] else if ok = true then ∃ is L i, hs = is ++ [i] ∧ Dv cs (stR c) is L ∧ i < cs.length ∧ aCl L (cs.getD i []) = -1 else hs = [] ∧ ∃ is L, Dv cs (stR c) is L ∧ Shut cs L
def fdx (p : Nat → Bool) : Nat → Nat
  | 0 => 0
  | n + 1 => if fdx p n < n then fdx p n else if p n = true then n else n + 1
def fail1 (cs : List (List Int)) (L : List Int) : Nat := fdx (fun i => aCl L (cs.getD i []) == -1) cs.length
def unit1 (cs : List (List Int)) (L : List Int) : Nat := fdx (fun i => aUnitOk L (cs.getD i [])) cs.length
inductive Dc (cs : List (List Int)) (l0 : List Int) : List Nat → List Int → Prop
  | nil : Dc cs l0 [] l0
  | snoc {is : List Nat} {L : List Int} : Dc cs l0 is L → fail1 cs L = cs.length → unit1 cs L < cs.length → Dc cs l0 (is ++ [unit1 cs L]) (L ++ [aUnit L (cs.getD (unit1 cs L) [])])
end Go.Proofs.Ytcanlckenjndbaa
