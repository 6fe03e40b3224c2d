import Derived.Test.YtghdacijcnmhlaaDoorMgAM
import Derived.Test.YtghdacijcnmhlaaDoorMgAJ
import Derived.Test.YtghdacijcnmhlaaDoorMgAG
import Derived.Test.YtghdacijcnmhlaaDoorMgAL
namespace Go.Proofs.YtghdacijcnmhlaaDoor
open Go.RowKit
set_option linter.unusedVariables false
set_option linter.unusedSimpArgs false
section
variable {P : Program} {m : Nat} {G0 : Gh} {H0 : AHeap}
def ADH0 (P : Program) (m : Nat) (G0 : Gh) (ops : Array Oper) (H0 : AHeap) (K : List AV → AHeap → MS → Prop) : List Oper → List Kd → List AV → AHeap → MS → Prop
  | [], _, fr, H, M => K fr H M
  | o :: l, al, fr, H, M => ∃ x H' M', Op4 P m G0 ops H0 o fr H H' M M' x (al.headD .free) ∧ ADH0 P m G0 ops H0 K l al.tail (putL fr o.dst x) H' M'
theorem ADH0.fns {ops : Array Oper} {K : List AV → AHeap → MS → Prop} : ∀ {l : List Oper} {al : List Kd} {fr : List AV} {H : AHeap} {M : MS}, ADH0 P m G0 ops H0 K l al fr H M →
    ∃ (X : Nat → AV) (F : Nat → List AV) (Hk : Nat → AHeap) (Mk : Nat → MS), F 0 = fr ∧ Hk 0 = H ∧ Mk 0 = M ∧ K (F l.length) (Hk l.length) (Mk l.length) ∧ ∀ j o, l[j]? = some o → Op4 P m G0 ops H0 o (F j) (Hk j) (Hk (j + 1)) (Mk j) (Mk (j + 1)) (X j) (al.getD j .free) ∧ F (j + 1) = putL (F j) o.dst (X j)
  | [], al, fr, H, M, h => ⟨fun _ => uD, fun _ => fr, fun _ => H, fun _ => M, rfl, rfl, rfl, h, fun j o e => by simp at e⟩
  | o :: l, al, fr, H, M, h => by
    obtain ⟨x, H', M', h1, h2⟩ := h
    obtain ⟨X, F, Hk, Mk, e1, e0, e2, e3, e4⟩ := ADH0.fns h2
    refine ⟨consF x X, consF fr F, consF H Hk, consF M Mk, rfl, rfl, rfl, e3, fun j o' e => ?_⟩
    cases j with
    | zero =>
      simp only [List.getElem?_cons_zero, Option.some.injEq] at e; subst e
      refine ⟨?_, e1⟩
      show Op4 P m G0 ops H0 o fr H (Hk 0) M (Mk 0) x (al.getD 0 .free)
      rw [e2, e0]
      cases al <;> exact h1
    | succ j =>
      simp only [List.getElem?_cons_succ] at e
      have := e4 j o' e
      cases al <;> exact this
def ADH (P : Program) (m : Nat) (H0 : AHeap) (K : List AV → AHeap → MS → Prop) (p : List Oper × List Kd × List AV × AHeap × MS) : Prop := ∀ n, p.2.2.1.length ≤ n → ∀ G0, ADH0 P m G0 (idB n) H0 K p.1 p.2.1 p.2.2.1 p.2.2.2.1 p.2.2.2.2
def kdH : Op → Kd
  | .load _ _ => .read
  | .store _ _ _ | .alloc _ | .box _ _ | .buildSlice _ _ _ | .makeSlice _ _ _ | .mapUpdate _ _ _ _ | .lookup _ _ _ _ => .chg
  | .call c => match c.callee with
    | .builtin .append | .builtin .delete => .chg
    | .builtin _ => .free
    | _ => .chg
  | _ => .free
def alH (l : List Oper) : List Kd := l.map fun o => kdH o.op
variable {tt : TT} {fr : List AV} {o : Oper} {l : List Oper} {al : List Kd} {K : List AV → AHeap → MS → Prop} {H : AHeap} {M : MS}
end
end Go.Proofs.YtghdacijcnmhlaaDoor
namespace Go.Proofs.YtghdacijcnmhlaaDoor
open Go.RowKit
set_option linter.unusedVariables false
set_option linter.unusedSimpArgs false
section
variable {P : Program} {tt : TT} {m : Nat} {Q : Exit → XS → Prop} {fr : List AV} {H : AHeap} {M : MS} {l : List Oper} {o : Oper} {n0 : Nat} {us : List Nat} {H0 Hc : AHeap} {K : List AV → AHeap → Prop} {al : List Kd}
theorem ADR_free0 (hT : TyOK P tt) (hr : roOp o.op = true) (hw : wantedS fr o = some true) (h : match aop tt ⟨fr, []⟩ o with | some (x, _) => ADR P n0 us H0 K Hc (l, al, putL fr o.dst x) | none => False) : ADR P n0 us H0 K Hc (o :: l, .free :: al, fr) := fun n hn => by
  cases hx : aop tt ⟨fr, []⟩ o with
  | none => rw [hx] at h; exact h.elim
  | some p =>
    obtain ⟨x, H'⟩ := p
    rw [hx] at h
    have := aop_ro hr hx
    subst this
    exact ⟨x, Hc, none, .free x (wanted_iff hn hw) fun H => does_aop hT (aop_mono (H0 := []) ⟨Nat.zero_le _, fun o x e => by simp at e⟩ hr hx), h n (by show (putL _ _ _).length ≤ n; rw [putL_len]; exact hn)⟩
def kdOf2 (c : Bool) (op : Op) : Kd := match op with
  | .load _ _ => .free
  | op => kdOf c op
def alD2 (ops : List Oper) : List Kd := ops.map fun o => kdOf2 (ops.any fun o => isApp o.op) o.op
end
end Go.Proofs.YtghdacijcnmhlaaDoor
namespace Go.Proofs.YtghdacijcnmhlaaDoor
open Go.Lib
set_option linter.unusedVariables false
def frm (l : List UInt8) : Nat := match l with | 45 :: _ => 1 | _ => 0
end Go.Proofs.YtghdacijcnmhlaaDoor
namespace Go.Proofs.YtghdacijcnmhlaaDoor
set_option linter.unusedSimpArgs false
def sumB (ts : List (Nat × List UInt8)) : Nat := (ts.map fun x => x.2.length + 1).sum
theorem rowB_sum (ts : List (Nat × List UInt8)) : (rowB ts).length ≤ sumB ts := by
  cases ts with
  | nil => exact Nat.zero_le _
  | cons t ts =>
    have h : ∀ ts : List (Nat × List UInt8), (ts.flatMap fun x => 32 :: x.2).length = sumB ts := fun ts => by
      induction ts with
      | nil => rfl
      | cons t ts ih => rw [List.flatMap_cons, List.length_append, ih]; simp [sumB]
    show (t.2 ++ ts.flatMap fun x => 32 :: x.2).length ≤ _
    rw [List.length_append, h]
    simp only [sumB, List.map_cons, List.sum_cons]; omega
theorem tk_sum (n : Nat) : ∀ (k : Nat) (m : List UInt8), m.length ≤ n → sumB (tk k m) ≤ 2 * m.length ∧ (tk k m).length ≤ m.length := by
  induction n with
  | zero => intro k m h; have : m = [] := List.length_eq_zero_iff.1 (by omega); subst this; rw [tk_nil]; exact ⟨Nat.le_refl _, Nat.le_refl _⟩
  | succ n ih =>
    intro k m h
    cases m with
    | nil => rw [tk_nil]; exact ⟨Nat.zero_le _, Nat.zero_le _⟩
    | cons c r =>
      rw [List.length_cons] at h
      cases hs : isSp c with
      | true =>
        rw [tk_sp hs]
        obtain ⟨h1, h2⟩ := ih (k + 1) r (by omega)
        rw [List.length_cons]; exact ⟨by omega, by omega⟩
      | false =>
        rw [tk_word hs]
        have hd : (r.takeWhile noSp).length + (r.dropWhile noSp).length = r.length := by
          rw [← List.length_append, List.takeWhile_append_dropWhile]
        obtain ⟨h1, h2⟩ := ih (k + 1 + (r.takeWhile noSp).length) (r.dropWhile noSp) (by omega)
        refine ⟨?_, ?_⟩
        · show sumB (_ :: _) ≤ _
          have e : ∀ (x : Nat × List UInt8) (ts : List (Nat × List UInt8)), sumB (x :: ts) = x.2.length + 1 + sumB ts := fun x ts => by simp [sumB]
          rw [e]
          simp only [List.length_cons]; omega
        · rw [List.length_cons, List.length_cons]; omega
theorem lineTk_sum (m : List UInt8) : sumB (lineTk m) ≤ 2 * m.length ∧ (lineTk m).length ≤ m.length := by
  have h : lineTk m = if remark m = true then [] else tk 0 m := rfl
  rw [h]
  split
  · exact ⟨Nat.zero_le _, Nat.zero_le _⟩
  · exact tk_sum m.length 0 m (Nat.le_refl _)
theorem lns_sum (n : Nat) : ∀ (ln k : Nat) (l : List UInt8), l.length ≤ n → (joinB (lns ln k l)).length ≤ 3 * l.length ∧ (lns ln k l).length ≤ l.length ∧ ∀ r ∈ lns ln k l, r.2.2.length ≤ l.length := by
  induction n with
  | zero => intro ln k l h; have : l = [] := List.length_eq_zero_iff.1 (by omega); subst this; rw [lns_nil]; exact ⟨Nat.zero_le _, Nat.zero_le _, fun r hr => by cases hr⟩
  | succ n ih =>
    intro ln k l h
    cases l with
    | nil => rw [lns_nil]; exact ⟨Nat.zero_le _, Nat.zero_le _, fun r hr => by cases hr⟩
    | cons c r =>
      have hle := lnLen_le (c :: r)
      obtain ⟨s1, s2⟩ := lineTk_sum ((c :: r).take (lnLen (c :: r)))
      have s3 := rowB_sum (lineTk ((c :: r).take (lnLen (c :: r))))
      have hl : ((c :: r).take (lnLen (c :: r))).length = lnLen (c :: r) := by rw [List.length_take]; omega
      rw [hl] at s1 s2
      have hd : ((c :: r).drop (lnLen (c :: r) + 1)).length = (c :: r).length - (lnLen (c :: r) + 1) := by rw [List.length_drop]
      obtain ⟨h1, h2, h3⟩ := ih (ln + 1) (k + (lnLen (c :: r) + 1)) ((c :: r).drop (lnLen (c :: r) + 1)) (by rw [hd]; omega)
      rw [hd] at h1 h2 h3
      have hc : (c :: r).length = r.length + 1 := rfl
      rw [lns]
      refine ⟨?_, ?_, ?_⟩
      · unfold joinB
        rw [List.flatMap_cons, List.length_append, List.length_append]
        unfold joinB at h1
        have : ([10] : List UInt8).length = 1 := rfl
        dsimp only
        omega
      · rw [List.length_cons]; omega
      · intro x hx
        rcases List.mem_cons.1 hx with rfl | hx
        · dsimp only; omega
        · have := h3 x hx; omega
end Go.Proofs.YtghdacijcnmhlaaDoor
