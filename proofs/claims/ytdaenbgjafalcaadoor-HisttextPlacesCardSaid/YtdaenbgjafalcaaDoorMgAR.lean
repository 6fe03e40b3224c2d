import Derived.Test.YtdaenbgjafalcaaDoorMgAM
import Derived.Test.YtdaenbgjafalcaaDoorMgAQ
namespace Go.Proofs.YtdaenbgjafalcaaDoor
open Go.RowKit
set_option linter.unusedVariables false
set_option linter.unusedSimpArgs false
inductive Op4 (P : Program) (m : Nat) (G0 : Gh) (ops : Array Oper) (H0 : AHeap) (o : Oper) (fr : List AV) (H H' : AHeap) (M M' : MS) : AV → Kd → Prop
  | skip (k : Kd) : k.al = false → H' = H → M' = M → AS.wanted ⟨fr, H⟩ ops o = some false → Op4 P m G0 ops H0 o fr H H' M M' uD k
  | free (x : AV) : H' = H → M' = M → AS.wanted ⟨fr, H⟩ ops o = some true → (∀ H, Does P ops o fr H x H) → Op4 P m G0 ops H0 o fr H H' M M' x .free
  | read (x : AV) : H' = H → M' = M → AS.wanted ⟨fr, H⟩ ops o = some true → Does P ops o fr H0 x H0 → Op4 P m G0 ops H0 o fr H H' M M' x .read
  | turn (x : AV) : AS.wanted ⟨fr, H⟩ ops o = some true → H.length ≤ H'.length → (∀ (Q : Exit → Act → World → Prop) (G : Gh) (a : Act) (w : World) (K : Act → World → Prop), Gh.leb m G0 G → MOK G0.kp G M → Inv G H w → Looks ops o H.length G fr a →
      (∀ kp' G' v w', (∃ lo, Gh.le lo { G with kp := kp' } G') → Gh.leb m G0 G' → MOK G0.kp G' M' → Inv G' H' w' → RA H'.length G' x v → K (a.put o.dst v) w') → o.wp P a w K Q) → Op4 P m G0 ops H0 o fr H H' M M' x .chg
structure Steps4 (P : Program) (m : Nat) (G0 : Gh) (ops : Array Oper) (Hk : Nat → AHeap) (al : List Kd) (X : Nat → AV) (F : Nat → List AV) (Mk : Nat → MS) : Prop where
  ok : ∀ k o, ops[k]? = some o → Op4 P m G0 ops (Hk 0) o (F k) (Hk k) (Hk (k + 1)) (Mk k) (Mk (k + 1)) (X k) (al.getD k .free) ∧ F (k + 1) = putL (F k) o.dst (X k)
section
variable {P : Program} {m : Nat} {G0 : Gh} {ops : Array Oper} {Hk : Nat → AHeap} {al : List Kd} {X : Nat → AV} {F : Nat → List AV} {Mk : Nat → MS}
theorem Steps4.len (h : Steps4 P m G0 ops Hk al X F Mk) : ∀ k, k ≤ ops.size → (F k).length = (F 0).length
  | 0, _ => rfl
  | k + 1, hk => by
    obtain ⟨_, h2⟩ := h.ok k _ (Array.getElem?_eq_getElem (by omega))
    rw [h2, ← h.len k (by omega)]
    unfold putL; split <;> simp
theorem Steps4.same (h : Steps4 P m G0 ops Hk al X F Mk) {k : Nat} (hk : k < ops.size) (ha : (al.getD k .free).al = false) : Hk (k + 1) = Hk k ∧ Mk (k + 1) = Mk k := by
  obtain ⟨h1, _⟩ := h.ok k _ (Array.getElem?_eq_getElem hk)
  generalize X k = x at h1
  generalize al.getD k .free = kd at h1 ha
  cases h1 with
  | skip _ _ e1 e2 => exact ⟨e1, e2⟩
  | free _ e1 e2 => exact ⟨e1, e2⟩
  | read _ e1 e2 => exact ⟨e1, e2⟩
  | turn _ _ _ _ => cases ha
theorem Steps4.grow (h : Steps4 P m G0 ops Hk al X F Mk) : ∀ k, k ≤ ops.size → (Hk 0).length ≤ (Hk k).length
  | 0, _ => Nat.le_refl _
  | k + 1, hk => by
    refine Nat.le_trans (h.grow k (by omega)) ?_
    obtain ⟨h1, _⟩ := h.ok k _ (Array.getElem?_eq_getElem (by omega))
    generalize X k = x at h1
    generalize al.getD k .free = kd at h1
    cases h1 with
    | skip _ _ e1 e2 => rw [e1]; exact Nat.le_refl _
    | free _ e1 e2 => rw [e1]; exact Nat.le_refl _
    | read _ e1 e2 => rw [e1]; exact Nat.le_refl _
    | turn _ _ e _ => exact e
theorem Steps4.kind (h : Steps4 P m G0 ops Hk al X F Mk) {k : Nat} (hk : k < ops.size) (ha : (al.getD k .free).al = true) : al.getD k .free = .chg := by
  obtain ⟨h1, _⟩ := h.ok k _ (Array.getElem?_eq_getElem hk)
  generalize X k = x at h1
  generalize al.getD k .free = kd at h1 ha
  cases h1 with
  | skip _ e _ _ _ => rw [e] at ha; cases ha
  | free _ _ _ => cases ha
  | read _ _ _ => cases ha
  | turn _ _ _ _ => rfl
theorem Steps4.flat (h : Steps4 P m G0 ops Hk al X F Mk) {c : Nat} : ∀ d, c + d ≤ ops.size → (∀ i, c ≤ i → i < c + d → (al.getD i .free).al = false) → Hk (c + d) = Hk c ∧ Mk (c + d) = Mk c
  | 0, _, _ => ⟨rfl, rfl⟩
  | d + 1, hd, ha => by
    obtain ⟨e1, e2⟩ := h.flat d (by omega) fun i h1 h2 => ha i h1 (by omega)
    obtain ⟨e3, e4⟩ := h.same (show c + d < ops.size by omega) (ha (c + d) (by omega) (by omega))
    exact ⟨e3.trans e1, e4.trans e2⟩
theorem Steps4.slot (h : Steps4 P m G0 ops Hk al X F Mk) {t : Nat} (ht : t < (F 0).length) : ∀ k, k ≤ ops.size →
    (∀ i, i < k → dstAt ops i = some t → (∀ q, i < q → q < k → dstAt ops q ≠ some t) → (F k).getD t uD = X i) ∧ ((∀ i, i < k → dstAt ops i ≠ some t) → (F k).getD t uD = (F 0).getD t uD)
  | 0, _ => ⟨fun i hi => absurd hi (by omega), fun _ => rfl⟩
  | k + 1, hk => by
    have hlt : k < ops.size := by omega
    obtain ⟨ih1, ih2⟩ := h.slot ht k (by omega)
    have hl := h.len k (by omega)
    obtain ⟨_, h2⟩ := h.ok k _ (Array.getElem?_eq_getElem hlt)
    have hd : dstAt ops k = (ops[k]).dst := by unfold dstAt; rw [Array.getElem?_eq_getElem hlt]; rfl
    rw [h2]
    have key : (putL (F k) (ops[k]).dst (X k)).getD t uD = if dstAt ops k = some t then X k else (F k).getD t uD := by
      rw [hd]
      unfold putL
      split
      · rename_i d he
        rw [he]
        by_cases e : d = t
        · subst e
          rw [if_pos rfl, List.getD_eq_getElem?_getD, List.getElem?_set_self (by rw [hl]; exact ht)]; rfl
        · rw [if_neg (by simpa using e), List.getD_eq_getElem?_getD, List.getElem?_set_ne e, List.getD_eq_getElem?_getD]
      · rename_i he; rw [he, if_neg (by simp)]
    rw [key]
    constructor
    · intro i hi he hno
      split
      · rename_i hk2
        rcases Nat.lt_or_ge i k with h3 | h3
        · exact absurd hk2 (hno k h3 (by omega))
        · have : i = k := by omega
          subst this; rfl
      · rename_i hk2
        have hik : i < k := by
          rcases Nat.lt_or_ge i k with h3 | h3
          · exact h3
          · have : i = k := by omega
            subst this; exact absurd he hk2
        exact ih1 i hik he fun q h3 h4 => hno q h3 (by omega)
    · intro hno
      rw [if_neg (hno k (by omega))]
      exact ih2 fun i hi => hno i (by omega)
end
end Go.Proofs.YtdaenbgjafalcaaDoor
namespace Go.Proofs.YtdaenbgjafalcaaDoor
open Go.RowKit
set_option linter.unusedVariables false
set_option linter.unusedSimpArgs false
section
variable {P : Program} {m : Nat} {G0 : Gh} {H0 : AHeap}
def ADH0 (P : Program) (m : Nat) (G0 : Gh) (ops : Array Oper) (H0 : AHeap) (K : List AV → AHeap → MS → Prop) : List Oper → List Kd → List AV → AHeap → MS → Prop
  | [], _, fr, H, M => K fr H M
  | o :: l, al, fr, H, M => ∃ x H' M', Op4 P m G0 ops H0 o fr H H' M M' x (al.headD .free) ∧ ADH0 P m G0 ops H0 K l al.tail (putL fr o.dst x) H' M'
theorem ADH0.fns {ops : Array Oper} {K : List AV → AHeap → MS → Prop} : ∀ {l : List Oper} {al : List Kd} {fr : List AV} {H : AHeap} {M : MS}, ADH0 P m G0 ops H0 K l al fr H M →
    ∃ (X : Nat → AV) (F : Nat → List AV) (Hk : Nat → AHeap) (Mk : Nat → MS), F 0 = fr ∧ Hk 0 = H ∧ Mk 0 = M ∧ K (F l.length) (Hk l.length) (Mk l.length) ∧ ∀ j o, l[j]? = some o → Op4 P m G0 ops H0 o (F j) (Hk j) (Hk (j + 1)) (Mk j) (Mk (j + 1)) (X j) (al.getD j .free) ∧ F (j + 1) = putL (F j) o.dst (X j)
  | [], al, fr, H, M, h => ⟨fun _ => uD, fun _ => fr, fun _ => H, fun _ => M, rfl, rfl, rfl, h, fun j o e => by simp at e⟩
  | o :: l, al, fr, H, M, h => by
    obtain ⟨x, H', M', h1, h2⟩ := h
    obtain ⟨X, F, Hk, Mk, e1, e0, e2, e3, e4⟩ := ADH0.fns h2
    refine ⟨consF x X, consF fr F, consF H Hk, consF M Mk, rfl, rfl, rfl, e3, fun j o' e => ?_⟩
    cases j with
    | zero =>
      simp only [List.getElem?_cons_zero, Option.some.injEq] at e; subst e
      refine ⟨?_, e1⟩
      show Op4 P m G0 ops H0 o fr H (Hk 0) M (Mk 0) x (al.getD 0 .free)
      rw [e2, e0]
      cases al <;> exact h1
    | succ j =>
      simp only [List.getElem?_cons_succ] at e
      have := e4 j o' e
      cases al <;> exact this
def ADH (P : Program) (m : Nat) (H0 : AHeap) (K : List AV → AHeap → MS → Prop) (p : List Oper × List Kd × List AV × AHeap × MS) : Prop := ∀ n, p.2.2.1.length ≤ n → ∀ G0, ADH0 P m G0 (idB n) H0 K p.1 p.2.1 p.2.2.1 p.2.2.2.1 p.2.2.2.2
def kdH : Op → Kd
  | .load _ _ => .read
  | .store _ _ _ | .alloc _ | .box _ _ | .buildSlice _ _ _ | .makeSlice _ _ _ | .mapUpdate _ _ _ _ | .lookup _ _ _ _ => .chg
  | .call c => match c.callee with
    | .builtin .append | .builtin .delete => .chg
    | .builtin _ => .free
    | _ => .chg
  | _ => .free
def alH (l : List Oper) : List Kd := l.map fun o => kdH o.op
variable {tt : TT} {fr : List AV} {o : Oper} {l : List Oper} {al : List Kd} {K : List AV → AHeap → MS → Prop} {H : AHeap} {M : MS}
end
end Go.Proofs.YtdaenbgjafalcaaDoor
namespace Go.Proofs.YtdaenbgjafalcaaDoor
open Go.RowKit
set_option linter.unusedVariables false
set_option linter.unusedSimpArgs false
section
variable {P : Program} {tt : TT} {m : Nat} {Q : Exit → XS → Prop} {fr : List AV} {H : AHeap} {M : MS} {l : List Oper} {o : Oper} {n0 : Nat} {us : List Nat} {H0 Hc : AHeap} {K : List AV → AHeap → Prop} {al : List Kd}
theorem ADR_free0 (hT : TyOK P tt) (hr : roOp o.op = true) (hw : wantedS fr o = some true) (h : match aop tt ⟨fr, []⟩ o with | some (x, _) => ADR P n0 us H0 K Hc (l, al, putL fr o.dst x) | none => False) : ADR P n0 us H0 K Hc (o :: l, .free :: al, fr) := fun n hn => by
  cases hx : aop tt ⟨fr, []⟩ o with
  | none => rw [hx] at h; exact h.elim
  | some p =>
    obtain ⟨x, H'⟩ := p
    rw [hx] at h
    have := aop_ro hr hx
    subst this
    exact ⟨x, Hc, none, .free x (wanted_iff hn hw) fun H => does_aop hT (aop_mono (H0 := []) ⟨Nat.zero_le _, fun o x e => by simp at e⟩ hr hx), h n (by show (putL _ _ _).length ≤ n; rw [putL_len]; exact hn)⟩
def kdOf2 (c : Bool) (op : Op) : Kd := match op with
  | .load _ _ => .free
  | op => kdOf c op
def alD2 (ops : List Oper) : List Kd := ops.map fun o => kdOf2 (ops.any fun o => isApp o.op) o.op
end
end Go.Proofs.YtdaenbgjafalcaaDoor
