import Derived.Test.YthfjnlapelkbnaaDoorMgAG
namespace Go.Proofs.YthfjnlapelkbnaaDoor
open Go.RowKit
set_option linter.unusedVariables false
set_option linter.unusedSimpArgs false
section
variable {P : Program} {tt : TT} {ops : Array Oper}
def putL (fr : List AV) (d : Option Tmp) (v : AV) : List AV := match d with | some d => fr.set d v | none => fr
def Does (P : Program) (ops : Array Oper) (o : Oper) (fr : List AV) (H : AHeap) (x : AV) (H' : AHeap) : Prop :=
  ∀ (Q : Exit → Act → World → Prop) (G : Gh) (a : Act) (w : World) (K : Act → World → Prop), Inv G H w → Looks ops o H.length G fr a → (∀ G' v w', Gh.le H.length G G' → H.length ≤ H'.length → Inv G' H' w' → RA H'.length G' x v → K (a.put o.dst v) w') → o.wp P a w K Q
theorem does_call {o : Oper} {fr : List AV} {H H' : AHeap} {x : AV} (fo : Operand) (args : Array Operand) (tys : Array TypeId) (ho : o.op = .call { callee := .value fo, args := args, argTypes := tys })
    (f : FuncId) (first caps : List AV) (hf : AS.ev ⟨fr, H⟩ fo = .fn f first caps) (hc : SF P f (first ++ args.toList.map (AS.ev ⟨fr, H⟩) ++ caps) H fun r H1 => r = x ∧ H1 = H') : Does P ops o fr H x H' := by
  intro Q G a w K hi hl hk
  have hops : ∀ y, y = fo ∨ y ∈ args.toList → y ∈ o.op.operands := fun y hy => by
    rw [ho]; simp only [Op.operands, Call.operands]
    rcases hy with rfl | hy
    · simp
    · simp [Array.mem_toList_iff.1 hy]
  have hfe := hl.ev (H := H) (hops fo (.inl rfl))
  rw [hf] at hfe
  generalize hfv : a.eval fo = fv at hfe
  cases hfe with
  | fn _ _ _ vs us h1 h2 h3 h4 =>
    have hargs0 : ∀ l : List Operand, (∀ y ∈ l, y ∈ args.toList) → RL H.length G (l.map (AS.ev ⟨fr, H⟩)) (l.map a.eval) := by
      intro l hm
      induction l with
      | nil => exact RL.nil _ _
      | cons y l ih => exact RL.cons (hl.ev (hops y (.inr (hm y (by simp))))) (ih fun z hz => hm z (by simp [hz]))
    have hargs := RL.append (RL.append ⟨h1, h3⟩ (hargs0 args.toList fun _ h => h)) ⟨h2, h4⟩
    have hrun : (execOp a.eval o).run P w = .ok (.enter f (vs ++ args.toList.map a.eval ++ us).toArray) w := by
      have e : (vs ++ args.toList.map a.eval ++ us).toArray = vs.toArray ++ args.map a.eval ++ us.toArray := by
        apply Array.toList_inj.1; simp
      rw [e]
      simp [execOp, ho, resolve, hfv, Deferred.ofValue, invoke, run_enter hc.callable]
    unfold Oper.wp
    rw [hrun]
    refine (hc.calls G w _ hi hargs).mono fun e w' hp => ?_
    obtain ⟨v, r, G', H1, rfl, hle, hn, hi', hx, rfl, rfl⟩ := hp
    exact hk G' v w' hle hn hi' hx
theorem Gh.le.low {n m : Nat} {G G' : Gh} (h : Gh.le n G G') (hm : m ≤ n) : Gh.le m G G' :=
  ⟨h.mu, h.sz, h.dom, fun o ho hd => h.back o (by omega) hd, h.fz, h.kp, h.new, h.os, h.tape, h.output⟩
def LeafDoes (P : Program) (ops : Array Oper) (o : Oper) (fr : List AV) (q : Nat) (obj : AObj) (x : AV) : Prop :=
  ∀ (H : AHeap) (Q : Exit → Act → World → Prop) (G : Gh) (a : Act) (w : World) (K : Act → World → Prop), H[q]? = some none → ¬ G.dom q → Inv G H w → Looks ops o H.length G fr a → (∀ G' v w', Gh.le q G G' → (∀ p, p ≠ q → G'.dom p → p < H.length → G.dom p) → Inv G' (H.set q (some obj)) w' → RA H.length G' x v → K (a.put o.dst v) w') → o.wp P a w K Q
inductive Kd
  | free | read | leaf | grow | chg | new
  deriving DecidableEq
def Kd.al : Kd → Bool
  | .grow | .chg | .new => true
  | _ => false
inductive OpOK (P : Program) (ops : Array Oper) (o : Oper) (fr : List AV) (H0 Hc : AHeap) : AV → AHeap → Kd → Option (Nat × AObj) → Prop
  | skip (k : Kd) : k.al = false → AS.wanted ⟨fr, H0⟩ ops o = some false → OpOK P ops o fr H0 Hc uD Hc k none
  | free (x : AV) : AS.wanted ⟨fr, H0⟩ ops o = some true → (∀ H, Does P ops o fr H x H) → OpOK P ops o fr H0 Hc x Hc .free none
  | pure (x : AV) : AS.wanted ⟨fr, H0⟩ ops o = some true → (∀ H, Sub H0 H → Does P ops o fr H x H) → OpOK P ops o fr H0 Hc x Hc .read none
  | grow (x : AV) (new : AHeap) : AS.wanted ⟨fr, H0⟩ ops o = some true → (∀ H, Sub Hc H → H.length = Hc.length → Does P ops o fr H x (H ++ new)) → OpOK P ops o fr H0 Hc x (Hc ++ new) .grow none
  | leaf (q : Nat) (obj : AObj) (x : AV) : AS.wanted ⟨fr, H0⟩ ops o = some true → LeafDoes P ops o fr q obj x → OpOK P ops o fr H0 Hc x Hc .leaf (some (q, obj))
  | chg (x : AV) (H' : AHeap) : AS.wanted ⟨fr, H0⟩ ops o = some true → Hc.length ≤ H'.length → Does P ops o fr Hc x H' → OpOK P ops o fr H0 Hc x H' .chg none
  | new (x : AV) (H' : AHeap) : AS.wanted ⟨fr, H0⟩ ops o = some true → Hc.length ≤ H'.length → (Sub H0 Hc → Sub H0 H') → Does P ops o fr Hc x H' → OpOK P ops o fr H0 Hc x H' .new none
def dirs (ops : Array Oper) (j : Nat) : List Nat := match ops[j]? with
  | some o => (o.after.toList.filter (Region.binds .any)).map (·.on)
  | none => []
def anc (ops : Array Oper) : Nat → Nat → Nat → Bool
  | 0, _, _ => false
  | k + 1, j, i => (dirs ops j).any fun e => e == i || anc ops k e i
def Anc (ops : Array Oper) (j i : Nat) : Prop := ∃ k, anc ops k j i = true
def forceN {α : Type} (f : Nat → α) (n : Nat) : α := match n with
  | 0 => f 0
  | m + 1 => f (m + 1)
def rowM (j : Nat) (acc : List Nat) : List Nat → Nat
  | [] => 0
  | e :: ds => (1 <<< e) ||| (if e < j then acc.getD (j - 1 - e) 0 else 0) ||| rowM j acc ds
def mkM (ops : Array Oper) (k : List Nat → Bool) : Nat → Nat → List Nat → Bool
  | 0, _, acc => k acc
  | r + 1, j, acc => forceN (fun m => mkM ops k r (j + 1) (m :: acc)) (rowM j acc (dirs ops j))
def GoodM (ops : Array Oper) (j : Nat) (acc : List Nat) : Prop := ∀ r i, r < j → (acc.getD (j - 1 - r) 0).testBit i = true → Anc ops r i
def ordB (ops : Array Oper) (n : Nat) (al : List Kd) (anc : Nat → Nat → Bool) : Bool :=
  ((List.range n).all fun j => (List.range n).all fun i => match ops[i]?, ops[j]? with
    | some oi, some oj => match oi.dst with
      | some d => if (oj.looksAt ops).contains d || oj.dst == some d then (if i < j then anc j i else if j < i then anc i j else true) else true
      | none => true
    | _, _ => false) &&
  ((List.range n).all fun j => (List.range j).all fun i => !((al.getD j .free).al && (al.getD i .free).al) || anc j i) &&
  ((List.range ops.size).all fun j => decide (j < n) || (List.range j).all fun i => anc j i) &&
  ((List.range n).all fun j => al.getD j .free != .chg || (List.range n).all fun i => al.getD i .free == .free || al.getD i .free == .chg || (decide (i < j) && al.getD i .free != .leaf && anc j i)) &&
  ((List.range n).all fun j => al.getD j .free != .new || (List.range n).all fun i => al.getD i .free != .leaf)
def ordOK (ops : Array Oper) (n : Nat) (al : List Kd) : Bool :=
  n ≤ ops.size && al.length == n && ((List.range ops.size).all fun j => (dirs ops j).all fun e => decide (e < j)) &&
  mkM ops (fun ms => ordB ops n al fun j i => decide (j < ops.size) && (ms.getD (ops.size - 1 - j) 0).testBit i) ops.size 0 []
structure Ord (ops : Array Oper) (n : Nat) (al : List Kd) : Prop where
  le_size : n ≤ ops.size
  al_len : al.length = n
  low : ∀ j e, e ∈ dirs ops j → e < j
  names : ∀ (i j : Nat) oi oj d, i < n → j < n → ops[i]? = some oi → ops[j]? = some oj → oi.dst = some d → (d ∈ oj.looksAt ops ∨ oj.dst = some d) → (i < j → Anc ops j i) ∧ (j < i → Anc ops i j)
  grows : ∀ i j, i < j → j < n → (al.getD j .free).al = true → (al.getD i .free).al = true → Anc ops j i
  tail : ∀ i j, n ≤ j → j < ops.size → i < j → Anc ops j i
  chg : ∀ i j, i < n → j < n → al.getD j .free = .chg → al.getD i .free = .free ∨ al.getD i .free = .chg ∨ (i < j ∧ al.getD i .free ≠ .leaf ∧ Anc ops j i)
  new : ∀ i j, i < n → j < n → al.getD j .free = .new → al.getD i .free ≠ .leaf
def Closed (ops : Array Oper) (listed : Array Bool) : Prop := listed.size = ops.size ∧ ∀ j, listed.getD j false = true → ∀ e ∈ dirs ops j, listed.getD e false = true
theorem anc_listed {listed : Array Bool} (hc : Closed ops listed) : ∀ k j i, (∀ e ∈ dirs ops j, listed.getD e false = true) → anc ops k j i = true → listed.getD i false = true
  | 0, j, i, _, h => by simp [anc] at h
  | k + 1, j, i, hd, h => by
    unfold anc at h
    rw [List.any_eq_true] at h
    obtain ⟨e, he, h⟩ := h
    rw [Bool.or_eq_true] at h
    rcases h with h | h
    · rw [← (beq_iff_eq.1 h)]; exact hd e he
    · exact anc_listed hc k e i (hc.2 e (hd e he)) h
theorem Anc.listed {listed : Array Bool} (hc : Closed ops listed) {j i : Nat} (hd : ∀ e ∈ dirs ops j, listed.getD e false = true) (h : Anc ops j i) : listed.getD i false = true := by
  obtain ⟨k, h⟩ := h
  exact anc_listed hc k j i hd h
theorem ready_spec {listed : Array Bool} (hs : listed.size = ops.size) {j : Nat} : j ∈ Region.ready .any ops listed ↔ j < ops.size ∧ listed.getD j false = false ∧ ∀ e ∈ dirs ops j, listed.getD e false = true := by
  unfold Region.ready
  rw [List.mem_filter, List.mem_range]
  refine and_congr_right fun hj => ?_
  have e1 : listed.getD j true = listed.getD j false := by simp [Array.getD, hs, hj]
  rw [e1, Bool.and_eq_true]
  refine and_congr (by simp) ?_
  unfold dirs
  rw [Array.getElem?_eq_getElem hj]
  simp only [Option.map_some, Option.getD_some, Array.all_eq_true_iff_forall_mem, List.mem_map, List.mem_filter, Array.mem_toList_iff]
  constructor
  · rintro h e ⟨x, ⟨h1, h2⟩, rfl⟩
    have := h x h1
    rw [h2] at this
    simpa using this
  · intro h x hx
    by_cases hb : Region.binds .any x = true
    · rw [hb]; simpa using h x.on ⟨x, ⟨hx, hb⟩, rfl⟩
    · simp [hb]
theorem getD_set (listed : Array Bool) (i j : Nat) (hi : i < listed.size) : (listed.setIfInBounds i true).getD j false = if j = i then true else listed.getD j false := by
  by_cases hj : j = i
  · subst hj; simp [Array.getD, hi]
  · rw [if_neg hj]
    simp only [Array.getD, Array.size_setIfInBounds]
    split
    · rename_i h
      show (listed.setIfInBounds i true)[j]'(by simpa using h) = listed[j]
      rw [Array.getElem_setIfInBounds_ne (by exact h) (Ne.symm hj)]
    · rfl
theorem Closed.set {listed : Array Bool} (hc : Closed ops listed) {j : Nat} (hj : j ∈ Region.ready .any ops listed) : Closed ops (listed.setIfInBounds j true) := by
  obtain ⟨h1, h2, h3⟩ := (ready_spec hc.1).1 hj
  refine ⟨by simp [hc.1], fun k hk e he => ?_⟩
  rw [getD_set _ _ _ (by rw [hc.1]; exact h1)] at hk ⊢
  split
  · rfl
  · split at hk
    · rename_i e1; subst e1; exact h3 e he
    · exact hc.2 k hk e he
def left (listed : Array Bool) : Nat := listed.toList.count false
end
end Go.Proofs.YthfjnlapelkbnaaDoor
namespace Go.Proofs.YthfjnlapelkbnaaDoor
open Go.RowKit
set_option linter.unusedVariables false
set_option linter.unusedSimpArgs false
section
variable {P : Program} {tt : TT} {ops : Array Oper}
def dstAt (ops : Array Oper) (j : Nat) : Option Tmp := (ops[j]?).bind (·.dst)
theorem last_such (p : Nat → Prop) : ∀ k, (∃ i, i < k ∧ p i) → ∃ i, i < k ∧ p i ∧ ∀ j, i < j → j < k → ¬ p j
  | 0, ⟨i, h, _⟩ => absurd h (by omega)
  | k + 1, ⟨i, h, hp⟩ => by
    by_cases hk : p k
    · exact ⟨k, by omega, hk, fun j h1 h2 => by omega⟩
    · have hi : i < k := by
        rcases Nat.lt_or_ge i k with h1 | h1
        · exact h1
        · have : i = k := by omega
          subst this; exact absurd hp hk
      obtain ⟨q, h1, h2, h3⟩ := last_such p k ⟨i, hi, hp⟩
      refine ⟨q, by omega, h2, fun j h4 h5 => ?_⟩
      rcases Nat.lt_or_ge j k with h6 | h6
      · exact h3 j h4 h6
      · have : j = k := by omega
        subst this; exact hk
structure Steps1 (P : Program) (ops : Array Oper) (N : Nat) (al : List Kd) (X : Nat → AV) (F : Nat → List AV) (Hh : Nat → AHeap) (Lf : Nat → Option (Nat × AObj)) : Prop where
  ok : ∀ j o, j < N → ops[j]? = some o → OpOK P ops o (F j) (Hh 0) (Hh j) (X j) (Hh (j + 1)) (al.getD j .free) (Lf j) ∧ F (j + 1) = putL (F j) o.dst (X j)
structure HR (N : Nat) (Lf : Nat → Option (Nat × AObj)) (Hm : AHeap) (ls : Nat → Bool) (H : AHeap) : Prop where
  len : H.length = Hm.length
  old : ∀ o, (∀ j q obj, j < N → Lf j = some (q, obj) → o ≠ q) → H[o]? = Hm[o]?
  leaf : ∀ j q obj, j < N → Lf j = some (q, obj) → H[q]? = some (if ls j = true then some obj else none)
theorem HR.ext {N : Nat} {Lf : Nat → Option (Nat × AObj)} {Hm : AHeap} {ls ls' : Nat → Bool} {H H' : AHeap} (h : HR N Lf Hm ls H) (h' : HR N Lf Hm ls' H') (hl : ∀ j, j < N → ls j = ls' j) : H = H' := by
  apply List.ext_getElem?
  intro o
  by_cases hex : ∃ j q obj, j < N ∧ Lf j = some (q, obj) ∧ o = q
  · obtain ⟨j, q, obj, h1, h2, rfl⟩ := hex
    rw [h.leaf j o obj h1 h2, h'.leaf j o obj h1 h2, hl j h1]
  · have hno : ∀ j q obj, j < N → Lf j = some (q, obj) → o ≠ q := fun j q obj h1 h2 e => hex ⟨j, q, obj, h1, h2, e⟩
    rw [h.old o hno, h'.old o hno]
theorem HR.congr {N : Nat} {Lf : Nat → Option (Nat × AObj)} {Hm : AHeap} {ls ls' : Nat → Bool} {H : AHeap} (h : HR N Lf Hm ls H) (hl : ∀ j, j < N → Lf j ≠ none → ls j = ls' j) : HR N Lf Hm ls' H :=
  ⟨h.len, h.old, fun j q obj h1 h2 => by rw [h.leaf j q obj h1 h2, hl j h1 (by rw [h2]; simp)]⟩
theorem HR.sub {N : Nat} {Lf : Nat → Option (Nat × AObj)} {Hm H0 : AHeap} {ls : Nat → Bool} {H : AHeap} (h : HR N Lf Hm ls H) (h0 : ∃ n, Hm = H0 ++ n) (hq : ∀ j q obj, j < N → Lf j = some (q, obj) → H0[q]? = some none) : Sub H0 H := by
  obtain ⟨n, rfl⟩ := h0
  refine ⟨by rw [h.len]; simp, fun o x e => ?_⟩
  rw [h.old o fun j q obj h1 h2 e2 => by rw [e2, hq j q obj h1 h2] at e; simp at e]
  rw [List.getElem?_append_left (List.getElem?_eq_some_iff.1 e).1]; exact e
theorem HR.grow {N : Nat} {Lf : Nat → Option (Nat × AObj)} {Hm : AHeap} {ls : Nat → Bool} {H : AHeap} (h : HR N Lf Hm ls H) (new : AHeap) : HR N Lf (Hm ++ new) ls (H ++ new) := by
  refine ⟨by simp [h.len], fun o ho => ?_, fun j q obj h1 h2 => ?_⟩
  · by_cases hlt : o < H.length
    · rw [List.getElem?_append_left hlt, List.getElem?_append_left (by rw [← h.len]; exact hlt)]; exact h.old o ho
    · rw [List.getElem?_append_right (by omega), List.getElem?_append_right (by rw [← h.len]; omega), h.len]
  · have := h.leaf j q obj h1 h2
    rw [List.getElem?_append_left (List.getElem?_eq_some_iff.1 this).1]; exact this
theorem HR.made {N : Nat} {Lf : Nat → Option (Nat × AObj)} {Hm : AHeap} {ls ls' : Nat → Bool} {H : AHeap} (h : HR N Lf Hm ls H) {j q : Nat} {obj : AObj} (hj : j < N) (hl : Lf j = some (q, obj)) (hinj : ∀ i p ob, i < N → i ≠ j → Lf i = some (p, ob) → p ≠ q) (h1 : ls' j = true) (h2 : ∀ i, i < N → i ≠ j → ls' i = ls i) : HR N Lf Hm ls' (H.set q (some obj)) := by
  have hlt : q < H.length := (List.getElem?_eq_some_iff.1 (h.leaf j q obj hj hl)).1
  refine ⟨by simp [h.len], fun o ho => ?_, fun i p ob k1 k2 => ?_⟩
  · rw [List.getElem?_set_ne (Ne.symm (ho j q obj hj hl))]; exact h.old o ho
  · by_cases hij : i = j
    · subst hij
      rw [hl] at k2; simp only [Option.some.injEq, Prod.mk.injEq] at k2; obtain ⟨rfl, rfl⟩ := k2
      rw [List.getElem?_set_self hlt, if_pos h1]
    · rw [List.getElem?_set_ne (Ne.symm (hinj i p ob k1 hij k2)), h2 i k1 hij]; exact h.leaf i p ob k1 k2
structure LfOK (N : Nat) (Lf : Nat → Option (Nat × AObj)) (H0 : AHeap) (n0 : Nat) : Prop where
  none : ∀ j q obj, j < N → Lf j = some (q, obj) → H0[q]? = some none ∧ n0 ≤ q
  inj : ∀ i j p q ob obj, i < N → j < N → i ≠ j → Lf i = some (p, ob) → Lf j = some (q, obj) → p ≠ q
section
variable {N : Nat} {al : List Kd} {X : Nat → AV} {F : Nat → List AV} {Hh : Nat → AHeap} {Lf : Nat → Option (Nat × AObj)}
theorem Steps1.len (h : Steps1 P ops N al X F Hh Lf) (hN : N ≤ ops.size) : ∀ k, k ≤ N → (F k).length = (F 0).length
  | 0, _ => rfl
  | k + 1, hk => by
    have hlt : k < ops.size := by omega
    obtain ⟨_, h2⟩ := h.ok k _ (by omega) (Array.getElem?_eq_getElem hlt)
    rw [h2, ← h.len hN k (by omega)]
    unfold putL; split <;> simp
theorem Steps1.pre (h : Steps1 P ops N al X F Hh Lf) (hN : N ≤ ops.size) : ∀ k, k ≤ N → (∀ i, i < k → al.getD i .free ≠ .chg ∧ al.getD i .free ≠ .new) → ∃ n, Hh k = Hh 0 ++ n
  | 0, _, _ => ⟨[], by simp⟩
  | k + 1, hk, hc => by
    have hlt : k < ops.size := by omega
    obtain ⟨h1, _⟩ := h.ok k _ (by omega) (Array.getElem?_eq_getElem hlt)
    obtain ⟨n, hn⟩ := h.pre hN k (by omega) fun i hi => hc i (by omega)
    have hck := hc k (by omega)
    generalize X k = x at h1
    generalize hq : Hh (k + 1) = q at h1
    generalize al.getD k .free = b at h1 hck
    generalize Lf k = lf at h1
    cases h1 with
    | grow _ new => exact ⟨n ++ new, by rw [hn, List.append_assoc]⟩
    | chg => exact absurd rfl hck.1
    | new => exact absurd rfl hck.2
    | _ => exact ⟨n, hn⟩
theorem Steps1.same (h : Steps1 P ops N al X F Hh Lf) (hN : N ≤ ops.size) {k : Nat} (hk : k < N) (ha : (al.getD k .free).al = false) : Hh (k + 1) = Hh k := by
  have hlt : k < ops.size := by omega
  obtain ⟨h1, _⟩ := h.ok k _ hk (Array.getElem?_eq_getElem hlt)
  generalize al.getD k .free = b at h1 ha
  generalize X k = x at h1
  generalize Hh (k + 1) = q at h1
  generalize Lf k = lf at h1
  cases h1 <;> first | rfl | (simp [Kd.al] at ha)
theorem Steps1.slot (h : Steps1 P ops N al X F Hh Lf) (hN : N ≤ ops.size) {t : Nat} (ht : t < (F 0).length) : ∀ k, k ≤ N →
    (∀ i, i < k → dstAt ops i = some t → (∀ q, i < q → q < k → dstAt ops q ≠ some t) → (F k).getD t uD = X i) ∧ ((∀ i, i < k → dstAt ops i ≠ some t) → (F k).getD t uD = (F 0).getD t uD)
  | 0, _ => ⟨fun i hi => absurd hi (by omega), fun _ => rfl⟩
  | k + 1, hk => by
    have hlt : k < ops.size := by omega
    obtain ⟨ih1, ih2⟩ := h.slot hN ht k (by omega)
    have hl := h.len hN k (by omega)
    obtain ⟨_, h2⟩ := h.ok k _ (by omega) (Array.getElem?_eq_getElem hlt)
    have hd : dstAt ops k = (ops[k]).dst := by unfold dstAt; rw [Array.getElem?_eq_getElem hlt]; rfl
    rw [h2]
    have key : (putL (F k) (ops[k]).dst (X k)).getD t uD = if dstAt ops k = some t then X k else (F k).getD t uD := by
      rw [hd]
      unfold putL
      split
      · rename_i d he
        rw [he]
        by_cases e : d = t
        · subst e
          rw [if_pos rfl, List.getD_eq_getElem?_getD, List.getElem?_set_self (by rw [hl]; exact ht)]; rfl
        · rw [if_neg (by simpa using e), List.getD_eq_getElem?_getD, List.getElem?_set_ne e, List.getD_eq_getElem?_getD]
      · rename_i he; rw [he, if_neg (by simp)]
    rw [key]
    constructor
    · intro i hi he hno
      split
      · rename_i hk2
        rcases Nat.lt_or_ge i k with h3 | h3
        · exact absurd hk2 (hno k h3 (by omega))
        · have : i = k := by omega
          subst this; rfl
      · rename_i hk2
        have hik : i < k := by
          rcases Nat.lt_or_ge i k with h3 | h3
          · exact h3
          · have : i = k := by omega
            subst this; exact absurd he hk2
        exact ih1 i hik he fun q h3 h4 => hno q h3 (by omega)
    · intro hno
      rw [if_neg (hno k (by omega))]
      exact ih2 fun i hi => hno i (by omega)
structure Sl (ops : Array Oper) (N : Nat) (X : Nat → AV) (F : Nat → List AV) (n : Nat) (G : Gh) (listed : Array Bool) (a : Act) : Prop where
  size : a.tmps.size = (F 0).length
  wr : ∀ t j, t < (F 0).length → j < N → listed.getD j false = true → dstAt ops j = some t → (∀ i, j < i → i < N → listed.getD i false = true → dstAt ops i ≠ some t) → RA n G (X j) (a.tmps.getD t undef)
  un : ∀ t, t < (F 0).length → (∀ j, j < N → listed.getD j false = true → dstAt ops j ≠ some t) → RA n G ((F 0).getD t uD) (a.tmps.getD t undef)
theorem Sl.at (h : Steps1 P ops N al X F Hh Lf) (hN : N ≤ ops.size) {n : Nat} {G : Gh} {listed : Array Bool} {a : Act} (hs : Sl ops N X F n G listed a) {k : Nat} (hk : k ≤ N) (t : Nat) (h1 : ∀ i, i < k → dstAt ops i = some t → listed.getD i false = true) (h2 : ∀ i, k ≤ i → i < N → dstAt ops i = some t → listed.getD i false = false) :
    RA n G ((F k).getD t uD) (a.tmps.getD t undef) := by
  by_cases ht : t < (F 0).length
  · obtain ⟨s1, s2⟩ := h.slot hN ht k hk
    by_cases hex : ∃ i, i < k ∧ dstAt ops i = some t
    · obtain ⟨i, h3, h4, h5⟩ := last_such _ k hex
      rw [s1 i h3 h4 fun q h6 h7 => h5 q h6 h7]
      refine hs.wr t i ht (by omega) (h1 i h3 h4) h4 fun q h6 h7 h8 h9 => ?_
      rcases Nat.lt_or_ge q k with h10 | h10
      · exact h5 q h6 h10 h9
      · rw [h2 q h10 h7 h9] at h8; cases h8
    · have hno : ∀ i, i < k → dstAt ops i ≠ some t := fun i hi e => hex ⟨i, hi, e⟩
      rw [s2 hno]
      refine hs.un t ht fun j hj hl e => ?_
      rcases Nat.lt_or_ge j k with h10 | h10
      · exact hno j h10 e
      · rw [h2 j h10 hj e] at hl; cases hl
  · have e1 : (F k).getD t uD = uD := by rw [List.getD_eq_getElem?_getD, List.getElem?_eq_none (by rw [h.len hN k hk]; omega)]; rfl
    have e2 : a.tmps.getD t undef = undef := by
      have := hs.size
      simp [Array.getD, show ¬ t < a.tmps.size by omega]
    rw [e1, e2]; exact .iv _ _ (.lit _)
theorem Sl.put {n n' lo : Nat} {G G' : Gh} {listed : Array Bool} {a : Act} {j : Nat} {v : Value} (hs : Sl ops N X F n G listed a) (hle : Gh.le lo G G') (hn : n ≤ n') (hj : j < N) (hsz : j < listed.size) (hx : RA n' G' (X j) v)
    (hbig : ∀ i, j < i → i < N → listed.getD i false = true → dstAt ops i ≠ dstAt ops j ∨ dstAt ops j = none) : Sl ops N X F n' G' (listed.setIfInBounds j true) (a.put (dstAt ops j) v) := by
  have hsize : (a.put (dstAt ops j) v).tmps.size = a.tmps.size := by unfold Act.put; split <;> simp
  have hget : ∀ t, t < (F 0).length → (a.put (dstAt ops j) v).tmps.getD t undef = if dstAt ops j = some t then v else a.tmps.getD t undef := fun t ht => by
    have hs2 := hs.size
    unfold Act.put
    cases hd : dstAt ops j with
    | none => simp
    | some d =>
      by_cases e : d = t
      · subst e; simp [Array.getD, hs2, ht]
      · have e' : ¬ (some d = some t) := by simpa using e
        rw [if_neg e']
        simp only [Array.getD, Array.size_setIfInBounds]
        split
        · rename_i h
          show (a.tmps.setIfInBounds d v)[t]'(by simpa using h) = a.tmps[t]
          rw [Array.getElem_setIfInBounds_ne (by exact h) e]
        · rfl
  refine ⟨hsize.trans hs.size, fun t i ht hi hl hd hno => ?_, fun t ht hno => ?_⟩
  · rw [hget t ht]
    by_cases hij : i = j
    · subst hij; rw [if_pos hd]; exact hx
    · rw [getD_set _ _ _ hsz, if_neg hij] at hl
      have hdj : dstAt ops j ≠ some t := fun e => by
        rcases Nat.lt_or_ge i j with h1 | h1
        · exact hno j h1 hj (by rw [getD_set _ _ _ hsz, if_pos rfl]) e
        · rcases hbig i (by omega) hi hl with h2 | h2
          · exact h2 (hd.trans e.symm)
          · rw [e] at h2; cases h2
      rw [if_neg hdj]
      exact (hs.wr t i ht hi hl hd fun q h1 h2 h3 => hno q h1 h2 (by rw [getD_set _ _ _ hsz]; split <;> first | rfl | exact h3)).mono hle hn
  · rw [hget t ht]
    rw [if_neg (hno j hj (by rw [getD_set _ _ _ hsz, if_pos rfl]))]
    exact (hs.un t ht fun i hi hl => hno i hi (by rw [getD_set _ _ _ hsz]; split <;> first | rfl | exact hl)).mono hle hn
end
end
end Go.Proofs.YthfjnlapelkbnaaDoor
namespace Go.Proofs.YthfjnlapelkbnaaDoor
open Go.RowKit
set_option linter.unusedVariables false
set_option linter.unusedSimpArgs false
section
variable {P : Program} {tt : TT} {ops : Array Oper}
def ADS (P : Program) (ops : Array Oper) (n0 : Nat) (H0 : AHeap) : List Nat → (List AV → AHeap → Prop) → List Oper → List Kd → List AV → AHeap → Prop
  | _, K, [], _, fr, Hc => K fr Hc
  | us, K, o :: l, al, fr, Hc => ∃ x H' lf, OpOK P ops o fr H0 Hc x H' (al.headD .free) lf ∧ match lf with
    | none => ADS P ops n0 H0 us K l al.tail (putL fr o.dst x) H'
    | some (q, obj) => H0[q]? = some none ∧ n0 ≤ q ∧ q ∉ us ∧ ADS P ops n0 H0 (q :: us) (fun F H => K F (H.set q (some obj))) l al.tail (putL fr o.dst x) H'
theorem OpOK.pre {o : Oper} {fr : List AV} {H0 Hc H' : AHeap} {x : AV} {b : Kd} {lf : Option (Nat × AObj)} (h : OpOK P ops o fr H0 Hc x H' b lf) : Hc.length ≤ H'.length := by
  cases h with
  | grow _ new => simp
  | chg _ _ _ h => exact h
  | new _ _ _ h => exact h
  | _ => exact Nat.le_refl _
def consF {α : Type} (x : α) (f : Nat → α) : Nat → α | 0 => x | j + 1 => f j
def extH : Nat → AHeap → AHeap
  | 0, H => H
  | k + 1, H => extH k H ++ [none]
theorem lt_one_i (k : IntKind) (x : Int) : AV.one (lt (.int k x)) = true := rfl
theorem lt_one_b (b : Bool) : AV.one (lt (.bool b)) = true := rfl
theorem lt_one_n (a : Option Addr) (n m : Nat) : AV.one (lt (.slice a n m)) = true := rfl
def isApp : Op → Bool
  | .call c => match c.callee with | .builtin .append => true | _ => false
  | .store _ _ _ => true
  | _ => false
def kdOf (c : Bool) : Op → Kd
  | .load _ _ => .read
  | .store _ _ _ => .chg
  | .alloc _ | .box _ _ | .buildSlice _ _ _ | .makeSlice _ _ _ => if c = true then .grow else .leaf
  | .call c => match c.callee with
    | .builtin .append => .chg
    | .builtin _ => .free
    | _ => .grow
  | _ => .free
def alD (ops : List Oper) : List Kd := ops.map fun o => kdOf (ops.any fun o => isApp o.op) o.op
theorem putL_len (fr : List AV) (d : Option Tmp) (x : AV) : (putL fr d x).length = fr.length := by unfold putL; cases d <;> simp
def alF (ops : List Oper) : List Kd := ops.map fun o => match o.op with | .load _ _ => .read | _ => .free
def drun (tt : TT) (H0 : AHeap) : List Oper → List Kd → List AV → List Oper × List Kd × List AV
  | [], al, fr => ([], al, fr)
  | o :: l, al, fr => match al.headD .free, wantedS fr o with
    | .free, some false => drun tt H0 l al.tail (putL fr o.dst uD)
    | .read, some false => drun tt H0 l al.tail (putL fr o.dst uD)
    | .free, some true => match freeOp o.op with
      | true => match aop tt ⟨fr, H0⟩ o with
        | some (x, _) => drun tt H0 l al.tail (putL fr o.dst x)
        | none => (o :: l, al, fr)
      | false => (o :: l, al, fr)
    | .read, some true => match roOp o.op with
      | true => match aop tt ⟨fr, H0⟩ o with
        | some (x, _) => drun tt H0 l al.tail (putL fr o.dst x)
        | none => (o :: l, al, fr)
      | false => (o :: l, al, fr)
    | _, _ => (o :: l, al, fr)
section
variable {n0 : Nat} {us : List Nat}
def ADR (P : Program) (n0 : Nat) (us : List Nat) (H0 : AHeap) (K : List AV → AHeap → Prop) (Hc : AHeap) (p : List Oper × List Kd × List AV) : Prop := ∀ n, p.2.2.length ≤ n → ADS P (idB n) n0 H0 us K p.1 p.2.1 p.2.2 Hc
theorem wanted_iff {n : Nat} {fr : List AV} {H0 : AHeap} {o : Oper} {b : Bool} (hn : fr.length ≤ n) (h : wantedS fr o = some b) : AS.wanted ⟨fr, H0⟩ (idB n) o = some b := by rw [wantedS_ok hn]; exact h
end
end
end Go.Proofs.YthfjnlapelkbnaaDoor
