import Derived.Test.YtdaenbgjafalcaaDoorMgAG
import Derived.Deep.AppendLies
import Derived.Test.YtdaenbgjafalcaaDoorMgAA
namespace Go.Proofs.YtdaenbgjafalcaaDoor
open Go.RowKit
set_option linter.unusedVariables false
set_option linter.unusedSimpArgs false
section
variable {P : Program} {tt : TT}
inductive Ids (n : Nat) : AV → Prop
  | iv (x : IV) : Ids n (.iv x)
  | agg (xs : List AV) : (∀ (i : Nat) (x : AV), xs[i]? = some x → Ids n x) → Ids n (.agg xs)
  | tup (xs : List AV) : (∀ (i : Nat) (x : AV), xs[i]? = some x → Ids n x) → Ids n (.tup xs)
  | osl (o off len sz : Nat) : o < n → Ids n (.osl o off len sz)
  | optr (o off : Nat) : o < n → Ids n (.optr o off)
  | xptr (o sz : Nat) : o < n → Ids n (.xptr o sz)
  | fn (f : FuncId) (first caps : List AV) : (∀ (i : Nat) (x : AV), first[i]? = some x → Ids n x) → (∀ (i : Nat) (x : AV), caps[i]? = some x → Ids n x) → Ids n (.fn f first caps)
theorem RA.undom {n m k : Nat} {G : Gh} {dom' : Nat → Prop} (hd : ∀ o, o < k → G.dom o → dom' o) {x : AV} {v : Value} (h : RA m G x v) (hi : Ids k x) : RA n { G with dom := dom' } x v := by
  induction h with
  | iv x v h => exact .iv x v h
  | agg xs vs h1 h2 h3 ih => cases hi with | agg _ hi => exact .agg xs vs h1 (fun i x v e e' => ih i x v e e' (hi i x e)) h3
  | tup xs vs h1 h2 ih => cases hi with | tup _ hi => exact .tup xs vs h1 fun i x v e e' => ih i x v e e' (hi i x e)
  | osl o off len sz b a cap h1 h2 h3 h4 h5 h6 => cases hi with | osl _ _ _ _ h => exact .osl o off len sz b a cap (hd o h h1) h2 h3 h4 h5 h6
  | onil o off sz h1 => cases hi with | osl _ _ _ _ h => exact .onil o off sz (hd o h h1)
  | optr o off h1 => cases hi with | optr _ _ h => exact RA.optr (G := { G with dom := dom' }) o off (hd o h h1)
  | xptr o sz h1 h2 h3 => cases hi with | xptr _ _ h => exact RA.xptr (G := { G with dom := dom' }) o sz (hd o h h1) h2 h3
  | fn f first caps vs us h1 h2 h3 h4 ih1 ih2 => cases hi with | fn _ _ _ k1 k2 => exact .fn f first caps vs us h1 h2 (fun i x v e e' => ih1 i x v e e' (k1 i x e)) (fun i x v e e' => ih2 i x v e e' (k2 i x e))
inductive NoImm : AV → Prop
  | lit (v : Value) : NoImm (lt v)
  | agg (xs : List AV) : (∀ (i : Nat) (x : AV), xs[i]? = some x → NoImm x) → NoImm (.agg xs)
  | tup (xs : List AV) : (∀ (i : Nat) (x : AV), xs[i]? = some x → NoImm x) → NoImm (.tup xs)
  | osl (o off len sz : Nat) : NoImm (.osl o off len sz)
  | optr (o off : Nat) : NoImm (.optr o off)
  | xptr (o sz : Nat) : NoImm (.xptr o sz)
  | fn (f : FuncId) (first caps : List AV) : (∀ (i : Nat) (x : AV), first[i]? = some x → NoImm x) → (∀ (i : Nat) (x : AV), caps[i]? = some x → NoImm x) → NoImm (.fn f first caps)
mutual
def AV.ren (k : Nat) : AV → AV
  | .iv x => .iv x
  | .agg xs => .agg (renL k xs)
  | .tup xs => .tup (renL k xs)
  | .osl o off len sz => .osl (k + o) off len sz
  | .optr o off => .optr (k + o) off
  | .xptr o sz => .xptr (k + o) sz
  | .fn f first caps => .fn f (renL k first) (renL k caps)
def renL (k : Nat) : List AV → List AV
  | [] => []
  | x :: xs => x.ren k :: renL k xs
end
theorem renL_map (k : Nat) (xs : List AV) : renL k xs = xs.map (AV.ren k) := by
  induction xs with
  | nil => rfl
  | cons x xs ih => simp [renL, ih]
theorem ren_one (k : Nat) (x : AV) : (x.ren k).one = x.one := by cases x <;> simp [AV.ren, AV.one]
theorem renL_one (k : Nat) (xs : List AV) : (renL k xs).all AV.one = xs.all AV.one := by
  rw [renL_map, List.all_map]; congr 1; funext x; exact ren_one k x
theorem RA.ren {n m k : Nat} {G G' : Gh} {x : AV} {v : Value} (h : RA n G x v) (hdom : ∀ o, G.dom o → G'.dom (k + o)) (hmu : ∀ o, G.dom o → G'.mu (k + o) = G.mu o) (hsz : ∀ o, G.dom o → G'.sz (k + o) = G.sz o) (hfz : (∀ b y, G.fz b = some y → G'.fz b = some y) ∨ NoImm x) : RA m G' (x.ren k) v := by
  induction h with
  | iv x v h =>
    refine .iv x v ?_
    rcases hfz with hfz | hfz
    · exact h.mono hfz
    · cases hfz; cases h; exact .lit _
  | agg xs vs h1 h2 h3 ih =>
    unfold AV.ren
    refine .agg _ _ (by rw [renL_map, List.length_map]; exact h1) (fun i y u e e' => ?_) (by rw [renL_one]; exact h3)
    rw [renL_map, List.getElem?_map] at e
    obtain ⟨z, hz, rfl⟩ := Option.map_eq_some_iff.1 e
    exact ih i z u hz e' (hfz.imp id fun h => by cases h with | agg _ h => exact h i z hz)
  | tup xs vs h1 h2 ih =>
    unfold AV.ren
    refine .tup _ _ (by rw [renL_map, List.length_map]; exact h1) (fun i y u e e' => ?_)
    rw [renL_map, List.getElem?_map] at e
    obtain ⟨z, hz, rfl⟩ := Option.map_eq_some_iff.1 e
    exact ih i z u hz e' (hfz.imp id fun h => by cases h with | tup _ h => exact h i z hz)
  | osl o off len sz b a cap h1 h2 h3 h4 h5 h6 => exact .osl _ _ _ _ _ _ _ (hdom o h1) (by rw [hmu o h1]; exact h2) (by rw [hmu o h1]; exact h3) h4 h5 (by rw [hsz o h1]; exact h6)
  | onil o off sz h1 => exact .onil _ _ _ (hdom o h1)
  | optr o off h1 => unfold AV.ren; rw [← hmu o h1]; exact .optr _ _ (hdom o h1)
  | xptr o sz h1 h2 h3 => unfold AV.ren; rw [← hmu o h1]; exact .xptr _ _ (hdom o h1) (by rw [hmu o h1]; exact h2) (by rw [hsz o h1]; exact h3)
  | fn f first caps vs us h1 h2 h3 h4 ih1 ih2 =>
    unfold AV.ren
    refine .fn f _ _ _ _ (by rw [renL_map, List.length_map]; exact h1) (by rw [renL_map, List.length_map]; exact h2) (fun i y u e e' => ?_) (fun i y u e e' => ?_)
    · rw [renL_map, List.getElem?_map] at e
      obtain ⟨z, hz, rfl⟩ := Option.map_eq_some_iff.1 e
      exact ih1 i z u hz e' (hfz.imp id fun h => by cases h with | fn _ _ _ h _ => exact h i z hz)
    · rw [renL_map, List.getElem?_map] at e
      obtain ⟨z, hz, rfl⟩ := Option.map_eq_some_iff.1 e
      exact ih2 i z u hz e' (hfz.imp id fun h => by cases h with | fn _ _ _ _ h => exact h i z hz)
def renH (k : Nat) (H : AHeap) : AHeap := H.map fun x => x.map fun y => ⟨y.t, renL k y.cells⟩
abbrev PF (P : Program) (f : FuncId) (args : List AV) (Q : AV → AHeap → Prop) : Prop := SF P f args [] Q
theorem SF.forgetAll {f : FuncId} {args : List AV} {Q : AV → AHeap → Prop} (h : PF P f args fun r _ => Ids 0 r ∧ Q r []) : PF P f args Q :=
  ⟨h.callable, fun G w vs hi hr => (h.calls G w vs hi hr).mono fun e w' ⟨v, r, G', H', h1, h2, h3, h4, h5, h6, h7⟩ =>
    ⟨v, r, { G' with dom := fun _ => False }, [], h1, ⟨h2.mu, h2.sz, fun o ho => absurd (hi.dom o ho) (by simp), fun o ho => absurd ho (by simp), h2.fz, h2.kp, h2.new, h2.os, h2.tape, h2.output⟩, Nat.zero_le _, ⟨h4.os, h4.tape, h4.output, h4.fz, h4.kp, fun o ho => ho.elim, fun o x e => by simp at e, fun o x e => by simp at e, fun o o' x x' e => by simp at e⟩, h5.undom (k := 0) (fun o ho => by omega) h6, h7⟩⟩
theorem RA.kpany {n : Nat} {G : Gh} {kp : Nat → Option Obj} {x : AV} {v : Value} (r : RA n G x v) : RA n { G with kp := kp } x v := by
  induction r with
  | iv x v hr => exact .iv x v hr
  | agg xs vs h1 h2 h3 ih => exact .agg xs vs h1 ih h3
  | tup xs vs h1 h2 ih => exact .tup xs vs h1 ih
  | osl o off len sz b a cap h1 h2 h3 h4 h5 h6 => exact .osl o off len sz b a cap h1 h2 h3 h4 h5 h6
  | onil o off sz h1 => exact .onil o off sz h1
  | optr o off h1 => exact RA.optr (G := { G with kp := kp }) o off h1
  | xptr o sz h1 h2 h3 => exact RA.xptr (G := { G with kp := kp }) o sz h1 h2 h3
  | fn f first caps vs us h1 h2 h3 h4 ih1 ih2 => exact .fn f first caps vs us h1 h2 ih1 ih2
theorem PF.among {f : FuncId} {args : List AV} {H : AHeap} {Q : AV → AHeap → Prop} (hargs : ∀ x ∈ args, Ids 0 x) (h : PF P f args Q) : SF P f args H (fun r H' => ∃ r1 H1, Q r1 H1 ∧ r = r1.ren H.length ∧ H' = H ++ renH H.length H1) := by
  refine ⟨h.callable, fun G w vs hi hr => ?_⟩
  let G1 : Gh := { G with kp := fun b => w.heap[b]?, dom := fun _ => False }
  have hi1 : Inv G1 [] w := ⟨hi.os, hi.tape, hi.output, hi.fz, fun b x e => e, fun o ho => ho.elim, fun o x e => by simp at e, fun o x e => by simp at e, fun o o' x x' e => by simp at e⟩
  have hr1 : RL 0 G1 args vs := ⟨hr.1, fun i x v e e' => by
    have h1 := (hr.2 i x v e e').undom (n := 0) (k := 0) (dom' := fun _ => False) (fun o ho => by omega) (hargs x (List.mem_iff_getElem?.2 ⟨i, e⟩))
    exact RA.kpany h1⟩
  refine (h.calls G1 w vs hi1 hr1).mono fun e w' ⟨v, r1, G1', H1, e1, hle, _, hi', hx, hq⟩ => ?_
  let G' : Gh := { G1' with dom := fun o => if o < H.length then G.dom o else G1'.dom (o - H.length), mu := fun o => if o < H.length then G.mu o else G1'.mu (o - H.length), sz := fun o => if o < H.length then G.sz o else G1'.sz (o - H.length), kp := G.kp }
  have hdm : ∀ o, G'.dom (H.length + o) ↔ G1'.dom o := fun o => by show (if H.length + o < H.length then _ else _) ↔ _; rw [if_neg (by omega), Nat.add_sub_cancel_left]
  have hdm0 : ∀ o, o < H.length → (G'.dom o ↔ G.dom o) := fun o h => by show (if o < H.length then _ else _) ↔ _; rw [if_pos h]
  have hmu : ∀ o, G'.mu (H.length + o) = G1'.mu o := fun o => by show (if H.length + o < H.length then _ else _) = _; rw [if_neg (by omega), Nat.add_sub_cancel_left]
  have hsz : ∀ o, G'.sz (H.length + o) = G1'.sz o := fun o => by show (if H.length + o < H.length then _ else _) = _; rw [if_neg (by omega), Nat.add_sub_cancel_left]
  have hmu0 : ∀ o, o < H.length → G'.mu o = G.mu o := fun o h => if_pos h
  have hsz0 : ∀ o, o < H.length → G'.sz o = G.sz o := fun o h => if_pos h
  have hold : ∀ b x, w.heap[b]? = some x → w'.heap[b]? = some x := fun b x e => hi'.kp b x (hle.kp b x e)
  have hleG : Gh.le H.length G G' := ⟨fun o ho => hmu0 o (hi.dom o ho), fun o ho => hsz0 o (hi.dom o ho), fun o ho => (hdm0 o (hi.dom o ho)).2 ho, fun o ho hd => (hdm0 o ho).1 hd, hle.fz, fun b x e => e, fun b x y e f => hle.new b x y (hi.kp b x e) f, hle.os, hle.tape, hle.output⟩
  have hlen : (renH H.length H1).length = H1.length := by simp [renH]
  have nfz : ∀ b x, w.heap[b]? = some x → G.fz b = none → G1'.fz b = none := fun b x e f => by
    cases hc : G1'.fz b with
    | none => rfl
    | some y => obtain ⟨z, hz⟩ := hle.new b x y e hc; rw [show G1.fz b = G.fz b from rfl, f] at hz; cases hz
  have newer : ∀ o x, H1[o]? = some (some x) → G1'.sz o ≠ 0 → w.heap[(G1'.mu o).1]? = none := fun o x e hs => by
    obtain ⟨_, cs, k1, k2, k3, k4, k5, k6⟩ := (hi'.obj o x e).resolve_left fun q => hs q.2
    cases hc : w.heap[(G1'.mu o).1]? with
    | none => rfl
    | some y => rw [hle.kp _ y hc] at k6; cases k6
  have split1 : ∀ o x, (H ++ renH H.length H1)[o]? = some (some x) → (o < H.length ∧ H[o]? = some (some x)) ∨ (∃ q y, o = H.length + q ∧ H1[q]? = some (some y) ∧ x = ⟨y.t, renL H.length y.cells⟩) := fun o x e => by
    by_cases ho : o < H.length
    · rw [List.getElem?_append_left ho] at e; exact .inl ⟨ho, e⟩
    · rw [List.getElem?_append_right (by omega)] at e
      unfold renH at e
      rw [List.getElem?_map] at e
      obtain ⟨z, hz, hz2⟩ := Option.map_eq_some_iff.1 e
      cases z with
      | none => simp at hz2
      | some y => simp only [Option.map_some, Option.some.injEq] at hz2; exact .inr ⟨o - H.length, y, by omega, hz, hz2.symm⟩
  refine ⟨v, r1.ren H.length, G', H ++ renH H.length H1, e1, hleG, by simp, ⟨hi'.os, hi'.tape, hi'.output, hi'.fz, fun b x e => hold b x (hi.kp b x e), fun o ho => ?_, fun o x e => ?_, fun o x e => ?_, fun o o' x x' e e' hne hz hz' => ?_⟩, ?_, r1, H1, hq, rfl, rfl⟩
  · by_cases ho' : o < H.length
    · rw [List.length_append]; omega
    · have h9 := hi'.dom (o - H.length) ((hdm (o - H.length)).1 (by rw [Nat.add_sub_cancel' (by omega)]; exact ho))
      rw [List.length_append, hlen]; omega
  · rcases split1 o x e with ⟨ho, e2⟩ | ⟨q, y, rfl, e2, rfl⟩
    · exact (hdm0 o ho).2 (hi.live o x e2)
    · exact (hdm q).2 (hi'.live q y e2)
  · have f0 := split1 o x e
    clear e
    rcases f0 with ⟨ho, e⟩ | ⟨q, y, rfl, e, rfl⟩
    · rw [hsz0 o ho]
      refine (hi.obj o x e).imp id fun ⟨k0, cs, k1, k2, k3, k4, k5, k6⟩ => ⟨k0, cs, ?_⟩
      rw [hmu0 o ho, hsz0 o ho]
      exact ⟨hold _ _ k1, k2, k3.mono hleG (by simp), k4, nfz _ _ k1 k5, k6⟩
    · rw [hsz]
      refine (hi'.obj q y e).imp (fun k => ⟨by rw [k.1]; rfl, k.2⟩) fun ⟨k0, cs, k1, k2, k3, k4, k5, k6⟩ => ⟨k0, cs, ?_⟩
      rw [hmu, hsz]
      refine ⟨k1, k2, ?_, by rw [renL_one]; exact k4, k5, ?_⟩
      · rw [renL_map]
        refine ⟨by rw [List.length_map]; exact k3.1, fun i z u f f' => ?_⟩
        rw [List.getElem?_map] at f
        obtain ⟨z', hz', rfl⟩ := Option.map_eq_some_iff.1 f
        rw [List.length_map] at f'
        exact (k3.2 i z' u hz' f').ren (fun o ho => (hdm o).2 ho) (fun o _ => hmu o) (fun o _ => hsz o) (.inl fun b y h => h)
      · cases hc : G.kp (G1'.mu q).1 with
        | none => rfl
        | some z => have := hi.kp _ z hc; rw [newer q y e k0] at this; cases this
  · have f0 := split1 o x e
    have f1 := split1 o' x' e'
    clear e e'
    rcases f0 with ⟨ho, e⟩ | ⟨q, y, rfl, e, rfl⟩ <;> rcases f1 with ⟨ho', e'⟩ | ⟨q', y', rfl, e', rfl⟩
    · rw [hsz0 o ho] at hz; rw [hsz0 o' ho'] at hz'; rw [hmu0 o ho, hmu0 o' ho']; exact hi.inj o o' x x' e e' hne hz hz'
    · rw [hsz0 o ho] at hz; rw [hsz] at hz'; rw [hmu0 o ho, hmu]
      obtain ⟨_, cs, k1, _⟩ := (hi.obj o x e).resolve_left fun q => hz q.2
      intro e2; rw [e2] at k1; rw [newer q' y' e' hz'] at k1; cases k1
    · rw [hsz0 o' ho'] at hz'; rw [hsz] at hz; rw [hmu0 o' ho', hmu]
      obtain ⟨_, cs, k1, _⟩ := (hi.obj o' x' e').resolve_left fun q => hz' q.2
      intro e2; rw [← e2] at k1; rw [newer q y e hz] at k1; cases k1
    · rw [hsz] at hz hz'; rw [hmu, hmu]
      exact hi'.inj q q' y y' e e' (by omega) hz hz'
  · exact hx.ren (fun o ho => (hdm o).2 ho) (fun o _ => hmu o) (fun o _ => hsz o) (.inl fun b y h => h)
inductive SnapC (H : AHeap) : AV → IV → Prop
  | iv (x : IV) : SnapC H (.iv x) x
  | nil (get : Nat → IV) (sz : Nat) : SnapC H (.iv (.lit (.slice none 0 0))) (.sl get 0 sz)
  | osl (o off len sz : Nat) (get : Nat → IV) (obj : AObj) (ys : Nat → AV) : sz ≠ 0 → H[o]? = some (some obj) → (∀ j, j < len * sz → obj.cells[off + j]? = some (ys j)) → (∀ j, j < len * sz → SnapC H (ys j) (get j)) → SnapC H (.osl o off len sz) (.sl get len sz)
  | optr (o off ext : Nat) (get : Nat → IV) (obj : AObj) (ys : Nat → AV) : ext ≠ 0 → H[o]? = some (some obj) → (∀ j, j < ext → obj.cells[off + j]? = some (ys j)) → (∀ j, j < ext → SnapC H (ys j) (get j)) → SnapC H (.optr o off) (.ptr get ext)
theorem SnapC.rif {H : AHeap} {x : AV} {y : IV} (h : SnapC H x y) {G : Gh} {w : World} {fz : Nat → Option Obj} (hi : Inv G H w) (hfz : ∀ b x, G.fz b = some x → fz b = some x) (hown : ∀ o obj, H[o]? = some (some obj) → G.sz o ≠ 0 → fz (G.mu o).1 = w.heap[(G.mu o).1]?) : ∀ {v : Value}, RA H.length G x v → RI fz y v := by
  induction h with
  | iv x => intro v hr; cases hr with | iv _ _ h => exact h.mono hfz
  | nil get sz => intro v hr; have := hr.lit_inv; subst this; exact .nil _ _ 0 (Nat.zero_le _)
  | osl o off len sz get obj ys h0 ho h1 h2 ih =>
    intro v hr
    cases hr with
    | onil => exact .nil _ _ 0 (Nat.zero_le _)
    | osl _ _ _ _ b a cap k1 k2 k3 k4 k5 k6 =>
      by_cases hl : len = 0
      · subst hl; exact .empty _ _ _ _ k5
      · have hpos : 0 < len * sz := Nat.mul_pos (by omega) (by omega)
        obtain ⟨m0, cs, m1, m2, m3, m4, m5, m6⟩ := hi.real ho (fun e => by have := h1 0 hpos; rw [e] at this; simp at this)
        rw [← hown o obj ho m0] at m1
        have ha := k3 (by omega)
        subst ha
        rw [k2] at m1
        refine .sl get len sz b ((G.mu o).2 + off) cap cs obj.t (0, 0) (fun j => cs.toList.getD ((G.mu o).2 + off + j) undef) m1 (fun j hj => ?_) (fun j hj => ?_) k4 k5
        · obtain ⟨u, hu, _⟩ := m3.cell (h1 j hj)
          rw [← Nat.add_assoc] at hu
          rw [← Array.getElem?_toList, hu, List.getD_eq_getElem?_getD, hu]; rfl
        · obtain ⟨u, hu, hr⟩ := m3.cell (h1 j hj)
          rw [← Nat.add_assoc] at hu
          rw [List.getD_eq_getElem?_getD, hu]
          exact ih j hj hr
  | optr o off ext get obj ys h0 ho h1 h2 ih =>
    intro v hr
    cases hr with
    | optr _ _ k1 =>
      obtain ⟨m0, cs, m1, m2, m3, m4, m5, m6⟩ := hi.real ho (fun e => by have := h1 0 (by omega); rw [e] at this; simp at this)
      rw [← hown o obj ho m0] at m1
      refine .ptr get ext _ ((G.mu o).2 + off) cs obj.t (0, 0) (fun j => cs.toList.getD ((G.mu o).2 + off + j) undef) m1 (fun j hj => ?_) (fun j hj => ?_)
      · obtain ⟨u, hu, _⟩ := m3.cell (h1 j hj)
        rw [← Nat.add_assoc] at hu
        rw [← Array.getElem?_toList, hu, List.getD_eq_getElem?_getD, hu]; rfl
      · obtain ⟨u, hu, hr⟩ := m3.cell (h1 j hj)
        rw [← Nat.add_assoc] at hu
        rw [List.getD_eq_getElem?_getD, hu]
        exact ih j hj hr
theorem SnapC.ri {H : AHeap} {x : AV} {y : IV} (h : SnapC H x y) {G : Gh} {w : World} (hi : Inv G H w) {v : Value} (hr : RA H.length G x v) : RI (fun b => w.heap[b]?) y v :=
  h.rif hi hi.fz (fun _ _ _ _ => rfl) hr
theorem RA.fzmono {n : Nat} {G : Gh} {fz : Nat → Option Obj} (h : ∀ b x, G.fz b = some x → fz b = some x) {x : AV} {v : Value} (r : RA n G x v) : RA n { G with fz := fz, bs := baseOk_up h G.bs } x v := by
  induction r with
  | iv x v hr => exact .iv x v (hr.mono h)
  | agg xs vs h1 h2 h3 ih => exact .agg xs vs h1 ih h3
  | tup xs vs h1 h2 ih => exact .tup xs vs h1 ih
  | osl o off len sz b a cap h1 h2 h3 h4 h5 h6 => exact .osl o off len sz b a cap h1 h2 h3 h4 h5 h6
  | onil o off sz h1 => exact .onil o off sz h1
  | optr o off h1 => exact RA.optr (G := { G with fz := fz, bs := baseOk_up h G.bs }) o off h1
  | xptr o sz h1 h2 h3 => exact RA.xptr (G := { G with fz := fz, bs := baseOk_up h G.bs }) o sz h1 h2 h3
  | fn f first caps vs us h1 h2 h3 h4 ih1 ih2 => exact .fn f first caps vs us h1 h2 ih1 ih2
inductive Snap (H : AHeap) : AV → AV → Prop
  | same (x : AV) : Ids 0 x → Snap H x x
  | iv (x : AV) (y : IV) : SnapC H x y → Snap H x (.iv y)
  | agg (xs ys : List AV) : xs.length = ys.length → (∀ (i : Nat) (x y : AV), xs[i]? = some x → ys[i]? = some y → Snap H x y) → ys.all AV.one = true → Snap H (.agg xs) (.agg ys)
  | tup (xs ys : List AV) : xs.length = ys.length → (∀ (i : Nat) (x y : AV), xs[i]? = some x → ys[i]? = some y → Snap H x y) → Snap H (.tup xs) (.tup ys)
theorem Snap.ra {H : AHeap} {x y : AV} (h : Snap H x y) {G : Gh} {w : World} (hi : Inv G H w) : ∀ {v : Value}, RA H.length G x v → RA 0 { G with fz := fun b => w.heap[b]?, dom := fun _ => False, bs := baseOk_up hi.fz G.bs } y v := by
  induction h with
  | same x h =>
    intro v hr
    exact RA.fzmono (G := { G with dom := fun _ => False }) (fun b x e => hi.fz b x e) (hr.undom (n := 0) (k := 0) (dom' := fun _ => False) (fun o ho => by omega) h)
  | iv x y h => intro v hr; exact .iv _ _ (h.ri hi hr)
  | agg xs ys h1 h2 h3 ih =>
    intro v hr
    cases hr with
    | agg _ vs k1 k2 k3 =>
      refine .agg _ _ (h1.symm.trans k1) (fun i y u e e' => ?_) h3
      obtain ⟨x, hx⟩ := at_of_len h1.symm e
      exact ih i x y hx e (k2 i x u hx e')
  | tup xs ys h1 h2 ih =>
    intro v hr
    cases hr with
    | tup _ vs k1 k2 =>
      refine .tup _ _ (h1.symm.trans k1) (fun i y u e e' => ?_)
      obtain ⟨x, hx⟩ := at_of_len h1.symm e
      exact ih i x y hx e (k2 i x u hx e')
def SnapL (H : AHeap) (xs ys : List AV) : Prop := xs.length = ys.length ∧ ∀ (i : Nat) (x y : AV), xs[i]? = some x → ys[i]? = some y → Snap H x y
theorem SnapL.nil (H : AHeap) : SnapL H [] [] := ⟨rfl, fun i x y h => by simp at h⟩
theorem SnapL.cons {H : AHeap} {x y : AV} {xs ys : List AV} (h : Snap H x y) (r : SnapL H xs ys) : SnapL H (x :: xs) (y :: ys) :=
  ⟨by simp [r.1], fun i a b h1 h2 => by
    cases i with
    | zero => simp at h1 h2; subst h1 h2; exact h
    | succ i => exact r.2 i a b (by simpa using h1) (by simpa using h2)⟩
theorem SnapL.rl {H : AHeap} {xs ys : List AV} (h : SnapL H xs ys) {G : Gh} {w : World} (hi : Inv G H w) {vs : List Value} (hr : RL H.length G xs vs) : RL 0 { G with fz := fun b => w.heap[b]?, dom := fun _ => False, bs := baseOk_up hi.fz G.bs } ys vs :=
  ⟨h.1.symm.trans hr.1, fun i y v e e' => by
    obtain ⟨x, hx⟩ := at_of_len h.1.symm e
    exact (h.2 i x y hx e).ra hi (hr.2 i x v hx e')⟩
theorem PF.snap {f : FuncId} {args args1 : List AV} {H : AHeap} {Q : AV → AHeap → Prop} (hargs : SnapL H args args1) (hno : ∀ r H1, Q r H1 → NoImm r ∧ ∀ (o : Nat) (x : AObj), H1[o]? = some (some x) → ∀ (j : Nat) (y : AV), x.cells[j]? = some y → NoImm y) (h : PF P f args1 Q) : SF P f args H (fun r H' => ∃ r1 H1, Q r1 H1 ∧ r = r1.ren H.length ∧ H' = H ++ renH H.length H1) := by
  refine ⟨h.callable, fun G w vs hi hr => ?_⟩
  let G1 : Gh := { G with fz := fun b => w.heap[b]?, dom := fun _ => False, bs := baseOk_up hi.fz G.bs }
  have hi1 : Inv G1 [] w := ⟨hi.os, hi.tape, hi.output, fun b x e => e, hi.kp, fun o ho => ho.elim, fun o x e => by simp at e, fun o x e => by simp at e, fun o o' x x' e => by simp at e⟩
  have hr1 : RL 0 G1 args1 vs := hargs.rl hi hr
  refine (h.calls G1 w vs hi1 hr1).mono fun e w' ⟨v, r1, G1', H1, e1, hle, _, hi', hx, hq⟩ => ?_
  let G' : Gh := { G1' with fz := G.fz, bs := G.bs, dom := fun o => if o < H.length then G.dom o else G1'.dom (o - H.length), mu := fun o => if o < H.length then G.mu o else G1'.mu (o - H.length), sz := fun o => if o < H.length then G.sz o else G1'.sz (o - H.length), kp := G.kp }
  have hdm : ∀ o, G'.dom (H.length + o) ↔ G1'.dom o := fun o => by show (if H.length + o < H.length then _ else _) ↔ _; rw [if_neg (by omega), Nat.add_sub_cancel_left]
  have hdm0 : ∀ o, o < H.length → (G'.dom o ↔ G.dom o) := fun o h => by show (if o < H.length then _ else _) ↔ _; rw [if_pos h]
  have hmu : ∀ o, G'.mu (H.length + o) = G1'.mu o := fun o => by show (if H.length + o < H.length then _ else _) = _; rw [if_neg (by omega), Nat.add_sub_cancel_left]
  have hsz : ∀ o, G'.sz (H.length + o) = G1'.sz o := fun o => by show (if H.length + o < H.length then _ else _) = _; rw [if_neg (by omega), Nat.add_sub_cancel_left]
  have hmu0 : ∀ o, o < H.length → G'.mu o = G.mu o := fun o h => if_pos h
  have hsz0 : ∀ o, o < H.length → G'.sz o = G.sz o := fun o h => if_pos h
  have hold : ∀ b x, w.heap[b]? = some x → w'.heap[b]? = some x := fun b x e => hi'.fz b x (hle.fz b x e)
  have hleG : Gh.le H.length G G' := ⟨fun o ho => hmu0 o (hi.dom o ho), fun o ho => hsz0 o (hi.dom o ho), fun o ho => (hdm0 o (hi.dom o ho)).2 ho, fun o ho hd => (hdm0 o ho).1 hd, fun b x e => e, fun b x e => e, fun b x y e f => ⟨y, f⟩, hle.os, hle.tape, hle.output⟩
  have hlen : (renH H.length H1).length = H1.length := by simp [renH]
  have newer : ∀ o x, H1[o]? = some (some x) → G1'.sz o ≠ 0 → w.heap[(G1'.mu o).1]? = none := fun o x e hs => by
    obtain ⟨_, cs, k1, k2, k3, k4, k5, k6⟩ := (hi'.obj o x e).resolve_left fun q => hs q.2
    cases hc : w.heap[(G1'.mu o).1]? with
    | none => rfl
    | some y => rw [hle.fz _ y hc] at k5; cases k5
  have split1 : ∀ o x, (H ++ renH H.length H1)[o]? = some (some x) → (o < H.length ∧ H[o]? = some (some x)) ∨ (∃ q y, o = H.length + q ∧ H1[q]? = some (some y) ∧ x = ⟨y.t, renL H.length y.cells⟩) := fun o x e => by
    by_cases ho : o < H.length
    · rw [List.getElem?_append_left ho] at e; exact .inl ⟨ho, e⟩
    · rw [List.getElem?_append_right (by omega)] at e
      unfold renH at e
      rw [List.getElem?_map] at e
      obtain ⟨z, hz, hz2⟩ := Option.map_eq_some_iff.1 e
      cases z with
      | none => simp at hz2
      | some y => simp only [Option.map_some, Option.some.injEq] at hz2; exact .inr ⟨o - H.length, y, by omega, hz, hz2.symm⟩
  refine ⟨v, r1.ren H.length, G', H ++ renH H.length H1, e1, hleG, by simp, ⟨hi'.os, hi'.tape, hi'.output, fun b x e => hold b x (hi.fz b x e), fun b x e => hold b x (hi.kp b x e), fun o ho => ?_, fun o x e => ?_, fun o x e => ?_, fun o o' x x' e e' hne hz hz' => ?_⟩, ?_, r1, H1, hq, rfl, rfl⟩
  · by_cases ho' : o < H.length
    · rw [List.length_append]; omega
    · have h9 := hi'.dom (o - H.length) ((hdm (o - H.length)).1 (by rw [Nat.add_sub_cancel' (by omega)]; exact ho))
      rw [List.length_append, hlen]; omega
  · rcases split1 o x e with ⟨ho, e2⟩ | ⟨q, y, rfl, e2, rfl⟩
    · exact (hdm0 o ho).2 (hi.live o x e2)
    · exact (hdm q).2 (hi'.live q y e2)
  · have f0 := split1 o x e
    clear e
    rcases f0 with ⟨ho, e⟩ | ⟨q, y, rfl, e, rfl⟩
    · rw [hsz0 o ho]
      refine (hi.obj o x e).imp id fun ⟨k0, cs, k1, k2, k3, k4, k5, k6⟩ => ⟨k0, cs, ?_⟩
      rw [hmu0 o ho, hsz0 o ho]
      exact ⟨hold _ _ k1, k2, k3.mono hleG (by simp), k4, k5, k6⟩
    · rw [hsz]
      refine (hi'.obj q y e).imp (fun k => ⟨by rw [k.1]; rfl, k.2⟩) fun ⟨k0, cs, k1, k2, k3, k4, k5, k6⟩ => ⟨k0, cs, ?_⟩
      rw [hmu, hsz]
      refine ⟨k1, k2, ?_, by rw [renL_one]; exact k4, ?_, ?_⟩
      · rw [renL_map]
        refine ⟨by rw [List.length_map]; exact k3.1, fun i z u f f' => ?_⟩
        rw [List.getElem?_map] at f
        obtain ⟨z', hz', rfl⟩ := Option.map_eq_some_iff.1 f
        rw [List.length_map] at f'
        exact (k3.2 i z' u hz' f').ren (fun o ho => (hdm o).2 ho) (fun o _ => hmu o) (fun o _ => hsz o) (.inr ((hno _ _ hq).2 q y e i z' hz'))
      · cases hc : G.fz (G1'.mu q).1 with
        | none => rfl
        | some z => have := hi.fz _ z hc; rw [newer q y e k0] at this; cases this
      · cases hc : G.kp (G1'.mu q).1 with
        | none => rfl
        | some z => have := hi.kp _ z hc; rw [newer q y e k0] at this; cases this
  · have f0 := split1 o x e
    have f1 := split1 o' x' e'
    clear e e'
    rcases f0 with ⟨ho, e⟩ | ⟨q, y, rfl, e, rfl⟩ <;> rcases f1 with ⟨ho', e'⟩ | ⟨q', y', rfl, e', rfl⟩
    · rw [hsz0 o ho] at hz; rw [hsz0 o' ho'] at hz'; rw [hmu0 o ho, hmu0 o' ho']; exact hi.inj o o' x x' e e' hne hz hz'
    · rw [hsz0 o ho] at hz; rw [hsz] at hz'; rw [hmu0 o ho, hmu]
      obtain ⟨_, cs, k1, _⟩ := (hi.obj o x e).resolve_left fun q => hz q.2
      intro e2; rw [e2] at k1; rw [newer q' y' e' hz'] at k1; cases k1
    · rw [hsz0 o' ho'] at hz'; rw [hsz] at hz; rw [hmu0 o' ho', hmu]
      obtain ⟨_, cs, k1, _⟩ := (hi.obj o' x' e').resolve_left fun q => hz' q.2
      intro e2; rw [← e2] at k1; rw [newer q y e hz] at k1; cases k1
    · rw [hsz] at hz hz'; rw [hmu, hmu]
      exact hi'.inj q q' y y' e e' (by omega) hz hz'
  · exact hx.ren (fun o ho => (hdm o).2 ho) (fun o _ => hmu o) (fun o _ => hsz o) (.inr (hno _ _ hq).1)
theorem Snap.raf {H : AHeap} {x y : AV} (h : Snap H x y) {G : Gh} {w : World} {fz : Nat → Option Obj} (hi : Inv G H w) (hfz : ∀ b x, G.fz b = some x → fz b = some x) (hown : ∀ o obj, H[o]? = some (some obj) → G.sz o ≠ 0 → fz (G.mu o).1 = w.heap[(G.mu o).1]?) : ∀ {v : Value}, RA H.length G x v → RA 0 { G with fz := fz, dom := fun _ => False, bs := baseOk_up hfz G.bs } y v := by
  induction h with
  | same x h => intro v hr; exact RA.fzmono (G := { G with dom := fun _ => False }) hfz (hr.undom (n := 0) (k := 0) (dom' := fun _ => False) (fun o ho => by omega) h)
  | iv x y h => intro v hr; exact .iv _ _ (h.rif hi hfz hown hr)
  | agg xs ys h1 h2 h3 ih =>
    intro v hr
    cases hr with
    | agg _ vs k1 k2 k3 =>
      refine .agg _ _ (h1.symm.trans k1) (fun i y u e e' => ?_) h3
      obtain ⟨x, hx⟩ := at_of_len h1.symm e
      exact ih i x y hx e (k2 i x u hx e')
  | tup xs ys h1 h2 ih =>
    intro v hr
    cases hr with
    | tup _ vs k1 k2 =>
      refine .tup _ _ (h1.symm.trans k1) (fun i y u e e' => ?_)
      obtain ⟨x, hx⟩ := at_of_len h1.symm e
      exact ih i x y hx e (k2 i x u hx e')
theorem SF.frozen {f : FuncId} {args : List AV} {Q : AV → AHeap → Prop} (h : PF P f args fun r H' => ∃ y, Snap H' r y ∧ Q y []) : PF P f args Q :=
  ⟨h.callable, fun G w vs hi hr => (h.calls G w vs hi hr).mono fun e w' ⟨v, r, G', H', h1, h2, h3, h4, h5, y, h6, h7⟩ => by
    let fz : Nat → Option Obj := fun b => match G'.kp b with | some _ => G'.fz b | none => w'.heap[b]?
    have hfz : ∀ b x, G'.fz b = some x → fz b = some x := fun b x e => by
      show (match G'.kp b with | some _ => G'.fz b | none => w'.heap[b]?) = some x
      split
      · exact e
      · exact h4.fz b x e
    have hown : ∀ o obj, H'[o]? = some (some obj) → G'.sz o ≠ 0 → fz (G'.mu o).1 = w'.heap[(G'.mu o).1]? := fun o obj e hs => by
      obtain ⟨_, cs, k1, k2, k3, k4, k5, k6⟩ := (h4.obj o obj e).resolve_left fun q => hs q.2
      show (match G'.kp (G'.mu o).1 with | some _ => G'.fz (G'.mu o).1 | none => w'.heap[(G'.mu o).1]?) = _
      rw [k6]
    refine ⟨v, y, { G' with fz := fz, dom := fun _ => False, bs := baseOk_up hfz G'.bs }, [], h1, ⟨h2.mu, h2.sz, fun o ho => absurd (hi.dom o ho) (by simp), fun o ho => absurd ho (by simp), fun b x e => hfz b x (h2.fz b x e), h2.kp, fun b x z e e' => ?_, h2.os, h2.tape, h2.output⟩, Nat.zero_le _, ⟨h4.os, h4.tape, h4.output, fun b x e => ?_, h4.kp, fun o ho => ho.elim, fun o x e => by simp at e, fun o x e => by simp at e, fun o o' x x' e => by simp at e⟩, h6.raf h4 hfz hown h5, h7⟩
    · have e2 : fz b = some z := e'
      simp only [fz, h2.kp b x e] at e2
      exact h2.new b x z e e2
    · have e2 : fz b = some x := e
      simp only [fz] at e2
      split at e2
      · exact h4.fz b x e2
      · exact e2⟩
theorem PF.value {f : FuncId} {args : List AV} {x : IV} {H : AHeap} (hargs : ∀ a ∈ args, Ids 0 a) (h : PF P f args fun r H' => r = .iv x ∧ H' = []) : SF P f args H fun r H1 => r = .iv x ∧ H1 = H :=
  (h.among hargs).mono fun r H' ⟨r1, H1, ⟨e1, e2⟩, e3, e4⟩ => by subst e1 e2; exact ⟨e3, by rw [e4]; simp [renH]⟩
end
end Go.Proofs.YtdaenbgjafalcaaDoor
namespace Go.Proofs.YtdaenbgjafalcaaDoor
open Go.RowKit
set_option linter.unusedVariables false
theorem CellRow.part {w : World} {b off : Nat} {xs : List Value} (h : CellRow w (some ⟨b, off, none⟩) xs) (i j : Nat) : CellRow w (some ⟨b, off + i, none⟩) ((xs.drop i).take j) := fun q u hq => by
  have h1 : xs[i + q]? = some u := by
    rw [List.getElem?_take] at hq
    split at hq
    · simpa using hq
    · cases hq
  obtain ⟨b', off', h0, hc⟩ := h (i + q) u h1
  cases h0
  exact ⟨b, off + i, rfl, by rw [← hc, Nat.add_assoc]⟩
theorem CellRow.nil (w : World) (A : Option Addr) : CellRow w A [] := fun j u h => by simp at h
theorem IntRow.cells {w : World} {a : Option Addr} {len : Nat} {xs : List Int} (h : IntRow w a len xs) : CellRow w a (xs.map (Value.int .i64)) := fun j u hj => by
  have hj' : j < xs.length := by
    rcases Nat.lt_or_ge j xs.length with h1 | h1
    · exact h1
    · rw [List.getElem?_eq_none (by simpa using h1)] at hj; cases hj
  obtain ⟨b, off, h0, hc⟩ := h.2.2 (by rw [← h.1]; omega)
  refine ⟨b, off, h0, ?_⟩
  rw [hc j (by rw [← h.1]; exact hj')]
  simp [List.getElem?_map, List.getElem?_eq_getElem hj'] at hj
  simp [List.getD, hj', ← hj]
theorem CellRow.at {w : World} {b : Nat} (vs : List Value) (t : TypeId) (hb : b = w.heap.size) : CellRow (w.alloc (.cells vs.toArray t)) (some ⟨b, 0, none⟩) vs := by subst hb; exact CellRow.made w vs t
theorem CellRow.grown {w w' : World} {r : Option Nat} {b off : Nat} {xs : List Value} (hg : w.grownBy w' r) (h : CellRow w (some ⟨b, off, none⟩) xs) (hr : some b ≠ r) : CellRow w' (some ⟨b, off, none⟩) xs := fun j u hj => by
  obtain ⟨b', off', h0, hc⟩ := h j u hj
  cases h0
  exact ⟨b, off, rfl, keep_grown hg hc hr⟩
end Go.Proofs.YtdaenbgjafalcaaDoor
namespace Go.Proofs.YtdaenbgjafalcaaDoor
open Go.RowKit
set_option linter.unusedVariables false
set_option linter.unusedSimpArgs false
def lint (x : Int) : AV := lt (.int .i64 x)
def iInts (xs : List Int) : IV := .sl (fun j => .lit (.int .i64 (xs.getD j 0))) xs.length 1
def iBools (xs : List Bool) : IV := .sl (fun j => .lit (.bool (xs.getD j false))) xs.length 1
def iRows (xss : List (List Int)) : IV := .sl (fun j => iInts (xss.getD j [])) xss.length 1
def Gh.of (W : World) [hb : BaseAt fun b => W.heap[b]?] : Gh := { bs := hb.ok, dom := fun _ => False, mu := fun _ => (0, 0), sz := fun _ => 0, fz := fun b => W.heap[b]?, kp := fun b => W.heap[b]?, os := W.os, tape := W.tape, output := W.output }
theorem Inv.of (W : World) [BaseAt fun b => W.heap[b]?] : Inv (Gh.of W) [] W := ⟨rfl, rfl, rfl, fun b x e => e, fun b x e => e, fun o ho => ho.elim, fun o x e => by simp at e, fun o x e => by simp at e, fun o o' x x' e => by simp at e⟩
theorem law_of {P : Program} {f : FuncId} {args : List AV} {v : Value} (h : PF P f args fun r _ => r = lt v) (W : World) [BaseAt fun b => W.heap[b]?] (vs : List Value) (hr : RL 0 (Gh.of W) args vs) : Calls P f vs.toArray W fun e W' => e = .returned v ∧ Below W.heap.size W W' := by
  refine (h.calls (Gh.of W) W vs (Inv.of W) hr).mono fun e w' ⟨u, r, G', H', h1, h2, _, h4, h5, h6⟩ => ?_
  subst h6
  have hb : ∀ k x, W.heap[k]? = some x → w'.heap[k]? = some x := fun k x e => h4.fz k x (h2.fz k x e)
  refine ⟨by rw [h1, h5.lit_inv], h4.os.trans h2.os, h4.tape.trans h2.tape, h4.output.trans h2.output, ?_, fun k hk => ?_⟩
  · rcases Nat.eq_zero_or_pos W.heap.size with h0 | h0
    · omega
    · have := lt_of_heap (hb (W.heap.size - 1) _ (Array.getElem?_eq_getElem (by omega)))
      omega
  · have := Array.getElem?_eq_getElem hk
    rw [this]; exact hb k _ this
section
variable {W : World} {a : Option Addr} {len cap : Nat}
end
theorem RL.one {n : Nat} {G : Gh} {x : AV} {v : Value} (h : RA n G x v) : RL n G [x] [v] := RL.cons h (RL.nil _ _)
theorem RL.two {n : Nat} {G : Gh} {x y : AV} {v u : Value} (h : RA n G x v) (k : RA n G y u) : RL n G [x, y] [v, u] := RL.cons h (RL.one k)
theorem PF_of_walk {P : Program} {f : FuncId} {args : List AV} {v : Value} (hc : Callable P f) (h : ∀ G w vs, Inv G [] w → RL 0 G args vs → Calls P f vs.toArray w fun e w' => e = .returned v ∧ Below w.heap.size w w') : PF P f args fun r H' => r = lt v ∧ H' = [] :=
  ⟨hc, fun G w vs hi hr => (h G w vs hi hr).mono fun e w' ⟨h1, h2⟩ => ⟨v, lt v, G, [], h1, Gh.le.refl _ _, Nat.le_refl _, ⟨h2.os.trans hi.os, h2.tape.trans hi.tape, h2.output.trans hi.output, fun b x e => (h2.block b (lt_of_heap (hi.fz b x e))).trans (hi.fz b x e), fun b x e => (h2.block b (lt_of_heap (hi.kp b x e))).trans (hi.kp b x e), fun o ho => hi.dom o ho, fun o x e => by simp at e, fun o x e => by simp at e, fun o o' x x' e => by simp at e⟩, .iv _ _ (.lit _), rfl, rfl⟩⟩
def aForm (vars : Int) (xss : List (List Int)) : AV := .agg [lint vars, .iv (iRows xss)]
end Go.Proofs.YtdaenbgjafalcaaDoor
