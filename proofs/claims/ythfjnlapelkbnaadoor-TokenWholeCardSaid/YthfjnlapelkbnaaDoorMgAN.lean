import Derived.Test.YthfjnlapelkbnaaDoorMgAM
namespace Go.Proofs.YthfjnlapelkbnaaDoor
open Go.RowKit
set_option linter.unusedVariables false
set_option linter.unusedSimpArgs false
section
variable {P : Program} {tt : TT} {m : Nat} {Q : Exit → XS → Prop} {fr : List AV} {H : AHeap} {M : MS} {l : List Oper} {o : Oper} {n0 : Nat} {us : List Nat} {H0 Hc : AHeap} {K : List AV → AHeap → Prop} {al : List Kd}
def effOp : Op → Bool
  | .alloc _ | .box _ _ | .buildSlice _ _ _ | .store _ _ _ | .makeSlice _ _ _ | .mapUpdate _ _ _ _ | .makeMap _ _ | .lookup _ _ _ _ => true
  | .call c => match c.callee with
    | .builtin .append | .builtin .delete => true
    | _ => false
  | _ => false
def preN : List Oper → Nat
  | [] => 0
  | o :: l => if effOp o.op = true then 0 else preN l + 1
theorem AX_drawG1 (hT : TyOK P tt) (hm : P.follows .mixedOrders = true) {id : Nat} {ops : List Oper} (hp : (preN ops == ops.length) = true) (hord : ordOK ops.toArray ops.length (alG ops) = true)
    (h : ∀ (K : List AV → AHeap → Prop), (∀ F H', Q .normal ⟨F, H', M⟩ → K F H') → ADF P H K (ops.map (strip (dsts ops)), fr)) : AX P m (.region id ops.toArray true) Q ⟨fr, H, M⟩ := AX_drawG hT hm hord h
end
end Go.Proofs.YthfjnlapelkbnaaDoor
namespace Go.Proofs.YthfjnlapelkbnaaDoor
open Go.RowKit
set_option linter.unusedVariables false
set_option linter.unusedSimpArgs false
inductive Op3 (P : Program) (m : Nat) (G0 : Gh) (ops : Array Oper) (H : AHeap) (o : Oper) (fr : List AV) (M M' : MS) : AV → Bool → Prop
  | skip : M' = M → AS.wanted ⟨fr, H⟩ ops o = some false → Op3 P m G0 ops H o fr M M' uD false
  | does (x : AV) : M' = M → AS.wanted ⟨fr, H⟩ ops o = some true → Does P ops o fr H x H → Op3 P m G0 ops H o fr M M' x false
  | turn (x : AV) : AS.wanted ⟨fr, H⟩ ops o = some true → (∀ (Q : Exit → Act → World → Prop) (G : Gh) (a : Act) (w : World) (K : Act → World → Prop), Gh.leb m G0 G → MOK G0.kp G M → Inv G H w → Looks ops o H.length G fr a →
      (∀ kp' v w', Gh.leb m G0 { G with kp := kp' } → MOK G0.kp { G with kp := kp' } M' → Inv { G with kp := kp' } H w' → RA H.length G x v → K (a.put o.dst v) w') → o.wp P a w K Q) → Op3 P m G0 ops H o fr M M' x true
structure Steps3 (P : Program) (m : Nat) (G0 : Gh) (ops : Array Oper) (H : AHeap) (al : List Kd) (X : Nat → AV) (F : Nat → List AV) (Mk : Nat → MS) : Prop where
  ok : ∀ k o, ops[k]? = some o → Op3 P m G0 ops H o (F k) (Mk k) (Mk (k + 1)) (X k) (al.getD k .free).al ∧ F (k + 1) = putL (F k) o.dst (X k)
section
variable {P : Program} {m : Nat} {G0 : Gh} {ops : Array Oper} {H : AHeap} {al : List Kd} {X : Nat → AV} {F : Nat → List AV} {Mk : Nat → MS}
theorem Steps3.len (h : Steps3 P m G0 ops H al X F Mk) : ∀ k, k ≤ ops.size → (F k).length = (F 0).length
  | 0, _ => rfl
  | k + 1, hk => by
    obtain ⟨_, h2⟩ := h.ok k _ (Array.getElem?_eq_getElem (by omega))
    rw [h2, ← h.len k (by omega)]
    unfold putL; split <;> simp
theorem Steps3.same (h : Steps3 P m G0 ops H al X F Mk) {k : Nat} (hk : k < ops.size) (ha : (al.getD k .free).al = false) : Mk (k + 1) = Mk k := by
  obtain ⟨h1, _⟩ := h.ok k _ (Array.getElem?_eq_getElem hk)
  rw [ha] at h1
  generalize X k = x at h1
  cases h1 with
  | skip e => exact e
  | does _ e => exact e
theorem Steps3.flat (h : Steps3 P m G0 ops H al X F Mk) {c : Nat} : ∀ d, c + d ≤ ops.size → (∀ i, c ≤ i → i < c + d → (al.getD i .free).al = false) → Mk (c + d) = Mk c
  | 0, _, _ => rfl
  | d + 1, hd, ha => by
    rw [← h.flat d (by omega) fun i h1 h2 => ha i h1 (by omega)]
    exact h.same (show c + d < ops.size by omega) (ha (c + d) (by omega) (by omega))
theorem Steps3.slot (h : Steps3 P m G0 ops H al X F Mk) {t : Nat} (ht : t < (F 0).length) : ∀ k, k ≤ ops.size →
    (∀ i, i < k → dstAt ops i = some t → (∀ q, i < q → q < k → dstAt ops q ≠ some t) → (F k).getD t uD = X i) ∧ ((∀ i, i < k → dstAt ops i ≠ some t) → (F k).getD t uD = (F 0).getD t uD)
  | 0, _ => ⟨fun i hi => absurd hi (by omega), fun _ => rfl⟩
  | k + 1, hk => by
    have hlt : k < ops.size := by omega
    obtain ⟨ih1, ih2⟩ := h.slot ht k (by omega)
    have hl := h.len k (by omega)
    obtain ⟨_, h2⟩ := h.ok k _ (Array.getElem?_eq_getElem hlt)
    have hd : dstAt ops k = (ops[k]).dst := by unfold dstAt; rw [Array.getElem?_eq_getElem hlt]; rfl
    rw [h2]
    have key : (putL (F k) (ops[k]).dst (X k)).getD t uD = if dstAt ops k = some t then X k else (F k).getD t uD := by
      rw [hd]
      unfold putL
      split
      · rename_i d he
        rw [he]
        by_cases e : d = t
        · subst e
          rw [if_pos rfl, List.getD_eq_getElem?_getD, List.getElem?_set_self (by rw [hl]; exact ht)]; rfl
        · rw [if_neg (by simpa using e), List.getD_eq_getElem?_getD, List.getElem?_set_ne e, List.getD_eq_getElem?_getD]
      · rename_i he; rw [he, if_neg (by simp)]
    rw [key]
    constructor
    · intro i hi he hno
      split
      · rename_i hk2
        rcases Nat.lt_or_ge i k with h3 | h3
        · exact absurd hk2 (hno k h3 (by omega))
        · have : i = k := by omega
          subst this; rfl
      · rename_i hk2
        have hik : i < k := by
          rcases Nat.lt_or_ge i k with h3 | h3
          · exact h3
          · have : i = k := by omega
            subst this; exact absurd he hk2
        exact ih1 i hik he fun q h3 h4 => hno q h3 (by omega)
    · intro hno
      rw [if_neg (hno k (by omega))]
      exact ih2 fun i hi => hno i (by omega)
theorem Sl.kp {N n : Nat} {G : Gh} {listed : Array Bool} {a : Act} (h : Sl ops N X F n G listed a) (kp' : Nat → Option Obj) : Sl ops N X F n { G with kp := kp' } listed a :=
  ⟨h.size, fun t j h1 h2 h3 h4 h5 => (h.wr t j h1 h2 h3 h4 h5).kpany, fun t h1 h2 => (h.un t h1 h2).kpany⟩
end
end Go.Proofs.YthfjnlapelkbnaaDoor
namespace Go.Proofs.YthfjnlapelkbnaaDoor
open Go.RowKit
set_option linter.unusedVariables false
set_option linter.unusedSimpArgs false
section
variable {P : Program} {m : Nat} {G0 : Gh} {H : AHeap}
def ADM0 (P : Program) (m : Nat) (G0 : Gh) (ops : Array Oper) (H : AHeap) (K : List AV → MS → Prop) : List Oper → List Kd → List AV → MS → Prop
  | [], _, fr, M => K fr M
  | o :: l, al, fr, M => ∃ x M', Op3 P m G0 ops H o fr M M' x (al.headD .free).al ∧ ADM0 P m G0 ops H K l al.tail (putL fr o.dst x) M'
theorem ADM0.fns {ops : Array Oper} {K : List AV → MS → Prop} : ∀ {l : List Oper} {al : List Kd} {fr : List AV} {M : MS}, ADM0 P m G0 ops H K l al fr M →
    ∃ (X : Nat → AV) (F : Nat → List AV) (Mk : Nat → MS), F 0 = fr ∧ Mk 0 = M ∧ K (F l.length) (Mk l.length) ∧ ∀ j o, l[j]? = some o → Op3 P m G0 ops H o (F j) (Mk j) (Mk (j + 1)) (X j) (al.getD j .free).al ∧ F (j + 1) = putL (F j) o.dst (X j)
  | [], al, fr, M, h => ⟨fun _ => uD, fun _ => fr, fun _ => M, rfl, rfl, h, fun j o e => by simp at e⟩
  | o :: l, al, fr, M, h => by
    obtain ⟨x, M', h1, h2⟩ := h
    obtain ⟨X, F, Mk, e1, e2, e3, e4⟩ := ADM0.fns h2
    refine ⟨consF x X, consF fr F, consF M Mk, rfl, rfl, e3, fun j o' e => ?_⟩
    cases j with
    | zero =>
      simp only [List.getElem?_cons_zero, Option.some.injEq] at e; subst e
      refine ⟨?_, e1⟩
      show Op3 P m G0 ops H o fr M (Mk 0) x (al.getD 0 .free).al
      rw [e2]
      cases al <;> exact h1
    | succ j =>
      simp only [List.getElem?_cons_succ] at e
      have := e4 j o' e
      cases al <;> exact this
def ADX (P : Program) (m : Nat) (H : AHeap) (K : List AV → MS → Prop) (p : List Oper × List Kd × List AV × MS) : Prop := ∀ n, p.2.2.1.length ≤ n → ∀ G0, ADM0 P m G0 (idB n) H K p.1 p.2.1 p.2.2.1 p.2.2.2
def mapOp : Op → Bool
  | .mapUpdate _ _ _ _ | .lookup _ _ _ _ => true
  | .call c => match c.callee with
    | .builtin .delete => true
    | _ => false
  | _ => false
def alM (l : List Oper) : List Kd := l.map fun o => if mapOp o.op = true then .grow else .free
variable {tt : TT} {fr : List AV} {o : Oper} {l : List Oper} {al : List Kd} {K : List AV → MS → Prop} {M : MS}
end
section
variable {m : Nat} {H : AHeap} {fr : List AV} {l : List Oper} {al : List Kd} {K : List AV → MS → Prop} {M : MS} {t e : TypeId} {d : Option Tmp} {ty : TypeId} {pos : String} {after : Array Edge} {g : Option (Nat × Bool)}
theorem ra_lits {n : Nat} {G : Gh} {us : List Value} {v : Value} (h : RA n G (.agg (us.map lt)) v) : v = .agg us.toArray := by
  cases h with
  | agg _ vs h1 h2 h3 =>
    congr 2
    refine List.ext_getElem? fun j => ?_
    rw [List.length_map] at h1
    rcases Nat.lt_or_ge j vs.length with hj | hj
    · have hj' : j < us.length := by omega
      have := (h2 j (lt us[j]) vs[j] (by rw [List.getElem?_map, List.getElem?_eq_getElem hj']; rfl) (List.getElem?_eq_getElem hj)).lit_inv
      rw [List.getElem?_eq_getElem hj, List.getElem?_eq_getElem hj', this]
    · rw [List.getElem?_eq_none hj, List.getElem?_eq_none (by omega)]
end
end Go.Proofs.YthfjnlapelkbnaaDoor
