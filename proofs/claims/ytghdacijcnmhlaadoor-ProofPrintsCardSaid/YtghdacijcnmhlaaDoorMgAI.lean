import Derived.Test.YtghdacijcnmhlaaDoorRows
import Derived.Test.YtghdacijcnmhlaaDoorMgAA
import Derived.Maps.OwnSet
import Derived.Maps.OwnOps
import Derived.OwnWalk
import Derived.Test.YtghdacijcnmhlaaDoorMgAH
import Derived.Test.YtghdacijcnmhlaaDoorMgAF
namespace Go.Proofs.YtghdacijcnmhlaaDoor
open Go.RowKit
open Go.Maps (Keyed)
def litOf : Value → DataW Unit
  | .int k a => .lit (.int k a)
  | _ => .nil
def isNum : Value → Bool
  | .int k a => (Lit.int k a).wf
  | _ => false
def mapR : Value → Option (DataW Unit × List MemPlace)
  | .int k a => if (Lit.int k a).wf = true then some (.lit (.int k a), []) else none
  | .agg cs => if cs.toList.all isNum = true then some (.agg (cs.toList.map litOf), []) else none
  | _ => none
theorem litOf_inj {v v' : Value} (h : isNum v = true) (h' : isNum v' = true) (e : litOf v = litOf v') : v = v' := by
  cases v <;> simp [isNum] at h
  cases v' <;> simp [isNum] at h'
  simp [litOf] at e
  obtain ⟨rfl, rfl⟩ := e; rfl
theorem litOf_list : ∀ {l l' : List Value}, l.all isNum = true → l'.all isNum = true → l.map litOf = l'.map litOf → l = l'
  | [], [], _, _, _ => rfl
  | [], _ :: _, _, _, e => by simp at e
  | _ :: _, [], _, _, e => by simp at e
  | v :: l, v' :: l', h, h', e => by
    simp only [List.all_cons, Bool.and_eq_true] at h h'
    simp only [List.map_cons, List.cons.injEq] at e
    rw [litOf_inj h.1 h'.1 e.1, litOf_list h.2 h'.2 e.2]
theorem mapR_inj {v v' : Value} {d : DataW Unit} {ps ps' : List MemPlace} (h : mapR v = some (d, ps)) (h' : mapR v' = some (d, ps')) : v = v' := by
  unfold mapR at h h'
  cases v <;> simp at h <;> cases v' <;> simp at h'
  · obtain ⟨_, h1, _⟩ := h
    obtain ⟨_, h2, _⟩ := h'
    rw [← h1] at h2; simp at h2; obtain ⟨rfl, rfl⟩ := h2; rfl
  · obtain ⟨_, h1, _⟩ := h
    obtain ⟨_, h2, _⟩ := h'
    rw [← h1] at h2; cases h2
  · obtain ⟨_, h1, _⟩ := h
    obtain ⟨_, h2, _⟩ := h'
    rw [← h1] at h2; cases h2
  · rename_i cs cs'
    obtain ⟨g1, h1, _⟩ := h
    obtain ⟨g2, h2, _⟩ := h'
    rw [← h1] at h2
    simp only [DataW.agg.injEq] at h2
    have := litOf_list (l := cs.toList) (l' := cs'.toList) (by rw [List.all_eq_true]; intro x hx; obtain ⟨i, hi, e⟩ := List.mem_iff_getElem.1 hx; rw [← e]; simpa using g1 i (by simpa using hi)) (by rw [List.all_eq_true]; intro x hx; obtain ⟨i, hi, e⟩ := List.mem_iff_getElem.1 hx; rw [← e]; simpa using g2 i (by simpa using hi)) h2.symm
    rw [Value.agg.injEq]; exact Array.ext' this
theorem wf_int {a : Int} (h1 : -9223372036854775808 ≤ a) (h2 : a ≤ 9223372036854775807) : (Lit.int .i64 a).wf = true := by
  have e1 : IntKind.i64.min = -9223372036854775808 := by decide
  have e2 : IntKind.i64.max = 9223372036854775807 := by decide
  simp [Lit.wf, e1, e2, h1, h2]
theorem law_int : Keyed Tryd.prog 3 := Maps.int_keyed Tryd.underlying3
theorem key_int {a : Int} (h1 : -9223372036854775808 ≤ a) (h2 : a ≤ 9223372036854775807) : keyOf Tryd.prog 3 (.int .i64 a) = some (.int .i64 a) := Maps.keyOf_int_mk Tryd.underlying3 (wf_int h1 h2)
def IMap (w : World) (b n : Nat) (F : Int → Option Value) : Prop := ∃ D : DataW Unit, w.ownsMap Tryd.prog 3 mapR b n D ∧
  (∀ k v, F k = some v → ∃ ps, ∀ zd, mapR v = some (D.atKey (.int .i64 k) zd, ps)) ∧ (∀ k, Maps.has D (.int .i64 k) = (F k).isSome) ∧
  ∃ ks : List Int, ks.Nodup ∧ (∀ k, k ∈ ks ↔ (F k).isSome = true) ∧ Maps.size D = ks.length
theorem IMap.lt {w : World} {b n : Nat} {F : Int → Option Value} (h : IMap w b n F) : b < w.heap.size := by
  obtain ⟨D, h1, _⟩ := h; exact h1.lt
theorem IMap.block {w w' : World} {b n : Nat} {F : Int → Option Value} (h : IMap w b n F) (hb : w'.heap[b]? = w.heap[b]?) : IMap w' b n F := by
  obtain ⟨D, ⟨es, clock, h1, h2, h3, h4⟩, r⟩ := h
  exact ⟨D, ⟨es, clock, hb.trans h1, h2, h3, h4⟩, r⟩
theorem IMap.later {w w' : World} {b n : Nat} {F : Int → Option Value} (h : IMap w b n F) (hb : Below w.heap.size w w') : IMap w' b n F := h.block (hb.block b h.lt)
theorem IMap.grown {w w' : World} {b n : Nat} {F : Int → Option Value} {r : Option Nat} (h : IMap w b n F) (hg : w.grownBy w' r) (hr : r ≠ some b) : IMap w' b n F := h.block (hg.block b h.lt (fun e => hr e.symm))
theorem IMap.set {w : World} {b n : Nat} {F : Int → Option Value} (h : IMap w b n F) {a : Addr} (ha : b ≠ a.block) (u : Value) : IMap (w.setCell a u) b n F := h.block (Below.heap_setCell w a u b ha)
theorem IMap.drew {w : World} {b n : Nat} {F : Int → Option Value} (h : IMap w b n F) : IMap w.drew b n F := h
theorem IMap.mono {w : World} {b n m : Nat} {F : Int → Option Value} (h : IMap w b n F) (hn : n ≤ m) : IMap w b m F := by
  obtain ⟨D, h1, r⟩ := h
  exact ⟨D, h1.mono hn, r⟩
theorem IMap.made (w : World) : IMap (w.alloc (.map #[] 0)) w.heap.size 0 (fun _ => none) :=
  ⟨.map [], World.ownsMap_made w _ _ _, (fun k v h => by cases h), fun k => rfl, [], List.nodup_nil, fun k => by simp, rfl⟩
theorem isKey_int {a : Int} (_h1 : -9223372036854775808 ≤ a) (_h2 : a ≤ 9223372036854775807) : WideAt.IsKeyLit (.int .i64 a) := trivial
def upd (F : Int → Option Value) (k : Int) (v : Value) : Int → Option Value := fun j => if j = k then some v else F j
def del (F : Int → Option Value) (k : Int) : Int → Option Value := fun j => if j = k then none else F j
theorem upd_same (F : Int → Option Value) (k : Int) (v : Value) : upd F k v k = some v := by unfold upd; rw [if_pos rfl]
theorem upd_other (F : Int → Option Value) {j k : Int} (h : j ≠ k) (v : Value) : upd F k v j = F j := by unfold upd; rw [if_neg h]
theorem bel_grown {w a w' : World} (h : Below w.heap.size w a) {m : Nat} (hg : a.grownBy w' (some m)) (hm : w.heap.size ≤ m) : Below w.heap.size w w' := h.grown hg h.size (fun j hj => by cases hj; exact hm)
theorem IMap.store {w : World} {b n : Nat} {F : Int → Option Value} (hown : IMap w b n F) (t : TypeId) (e : TypeId) (ht : Tryd.prog.underlying t = some (.map 3 e)) (hn : n < maxLen)
    {k : Int} (k1 : -9223372036854775808 ≤ k) (k2 : k ≤ 9223372036854775807) {u : Value} (hu : (mapR u).isSome = true) :
    ∃ w', (Instr.mapUpdate t (.map (some b)) (.int .i64 k) u).run Tryd.prog w = .ok () w' ∧ IMap w' b (n + 1) (upd F k u) ∧ w.grownBy w' (some b) := by
  obtain ⟨D, hD, hR, hH, ks, hk1, hk2, hk3⟩ := hown
  obtain ⟨⟨d, ps⟩, hud⟩ := Option.isSome_iff_exists.1 hu
  have hT := hD.tidy law_int
  have hM := hD.isMap
  obtain ⟨w', hrun, h1, h2⟩ := hD.update law_int ht hn (key_int k1 k2) hud
  refine ⟨w', hrun, ⟨_, h1, ?_, ?_, ?_⟩, h2⟩
  · intro j y hj
    by_cases hjk : j = k
    · subst hjk
      rw [upd_same] at hj; cases hj
      exact ⟨ps, fun zd => by rw [Maps.atKey_put_same hM (isKey_int k1 k2)]; exact hud⟩
    · rw [upd_other _ hjk] at hj
      obtain ⟨ps', h3⟩ := hR j y hj
      exact ⟨ps', fun zd => by rw [Maps.atKey_put_other (by simpa using hjk)]; exact h3 zd⟩
  · intro j
    by_cases hjk : j = k
    · subst hjk; rw [upd_same, Maps.has_put_same hM (isKey_int k1 k2)]; rfl
    · rw [upd_other _ hjk, Maps.has_put_other (by simpa using hjk)]; exact hH j
  · by_cases hks : k ∈ ks
    · refine ⟨ks, hk1, fun j => ?_, ?_⟩
      · by_cases hjk : j = k
        · subst hjk; simp [upd_same, hks]
        · rw [upd_other _ hjk]; exact hk2 j
      · rw [Maps.size_put hT, hH k, if_pos ((hk2 k).1 hks), hk3]
    · refine ⟨k :: ks, List.nodup_cons.2 ⟨hks, hk1⟩, fun j => ?_, ?_⟩
      · by_cases hjk : j = k
        · subst hjk; simp [upd_same]
        · rw [upd_other _ hjk, List.mem_cons, hk2 j]; simp [hjk]
      · rw [Maps.size_put hT, hH k, if_neg (fun h => hks ((hk2 k).2 h)), hk3]; rfl
theorem wpList_mput {w : World} {ops : Array Oper} {rest : List Oper} {o : Oper} {a : Act} {Q : Exit → Act → World → Prop} (hg : o.guard = none) (m x v : Operand) (t : TypeId) (hop : o.op = Op.mapUpdate t m x v)
    (e : TypeId) (ht : Tryd.prog.underlying t = some (.map 3 e)) (b n : Nat) (F : Int → Option Value) (hm : a.eval m = .map (some b)) (hown : IMap w b n F) (hn : n < maxLen)
    (k : Int) (hx : a.eval x = .int .i64 k) (k1 : -9223372036854775808 ≤ k) (k2 : k ≤ 9223372036854775807) (u : Value) (hv : a.eval v = u) (hu : (mapR u).isSome = true)
    (hK : ∀ w', IMap w' b (n + 1) (upd F k u) → w.grownBy w' (some b) → wpList Tryd.prog ops Q rest (a.put o.dst undef) w') : wpList Tryd.prog ops Q (o :: rest) a w := by
  obtain ⟨w', hrun, h1, h2⟩ := hown.store t e ht hn k1 k2 hu
  refine wpList_plain hg fun K' hK' => ?_
  unfold Oper.wp
  simp [execOp, hop, hm, hx, hv, hrun, Result.andThen]
  exact hK' _ _ (hK w' h1 h2)
theorem wpList_mlen {w : World} {ops : Array Oper} {rest : List Oper} {o : Oper} {a : Act} {Q : Exit → Act → World → Prop} (hg : o.guard = none) (m : Operand) (t : TypeId) (hop : o.op = Op.call { callee := Callee.builtin Builtin.len, args := #[m], argTypes := #[t] })
    (e : TypeId) (ht : Tryd.prog.underlying t = some (.map 3 e)) (b n : Nat) (F : Int → Option Value) (hm : a.eval m = .map (some b)) (hown : IMap w b n F)
    (hK : ∀ ks : List Int, ks.Nodup → (∀ k, k ∈ ks ↔ (F k).isSome = true) → wpList Tryd.prog ops Q rest (a.put o.dst (.int .i64 ks.length)) w) : wpList Tryd.prog ops Q (o :: rest) a w := by
  obtain ⟨D, hD, hR, hH, ks, hk1, hk2, hk3⟩ := hown
  refine wpList_len_own w hg m t hop 3 e ht mapR b n D hm hD ?_
  rw [hk3]
  exact hK ks hk1 hk2
end Go.Proofs.YtghdacijcnmhlaaDoor
namespace Go.Proofs.YtghdacijcnmhlaaDoor
open Go.RowKit
set_option linter.unusedVariables false
set_option linter.unusedSimpArgs false
theorem IMap.at {w : World} {b n : Nat} {F : Int → Option Value} (h : IMap w b n F) : ∃ o, w.heap[b]? = some o ∧ ∀ w' : World, w'.heap[b]? = some o → IMap w' b n F := by
  obtain ⟨D, ⟨es, clock, h1, h2, h3, h4⟩, r⟩ := id h
  exact ⟨_, h1, fun w' e => h.block (e.trans h1.symm)⟩
section
variable {w : World} {b n : Nat} {F : Int → Option Value} {t e : TypeId}
theorem IMap.look (hown : IMap w b n F) (ht : Tryd.prog.underlying t = some (.map 3 e)) {z : Value} (hz : (zeroValue e).run Tryd.prog w = .ok z w) (hzR : (mapR z).isSome = true) {k : Int} (k1 : -9223372036854775808 ≤ k) (k2 : k ≤ 9223372036854775807) :
    (Instr.lookup t (.map (some b)) (.int .i64 k) true).run Tryd.prog w = .ok (.tuple #[(F k).getD z, .bool (F k).isSome]) w := by
  obtain ⟨D, hD, hR, hH, _⟩ := hown
  obtain ⟨⟨zd, zp⟩, hzd⟩ := Option.isSome_iff_exists.1 hzR
  obtain ⟨v', ps, hrun, hv'⟩ := hD.look_ok law_int ht hz hzd (key_int k1 k2)
  have e1 : v' = (F k).getD z := by
    cases hF : F k with
    | none =>
      have h2 := hH k
      rw [hF] at h2
      rw [Maps.atKey_of_not_has h2] at hv'
      exact mapR_inj hv' hzd
    | some u =>
      obtain ⟨ps', hu⟩ := hR k u hF
      exact mapR_inj hv' (hu zd)
  rw [hrun, e1, hH k]
theorem IMap.get (hown : IMap w b n F) (ht : Tryd.prog.underlying t = some (.map 3 e)) {z : Value} (hz : (zeroValue e).run Tryd.prog w = .ok z w) (hzR : (mapR z).isSome = true) {k : Int} (k1 : -9223372036854775808 ≤ k) (k2 : k ≤ 9223372036854775807) :
    (Instr.lookup t (.map (some b)) (.int .i64 k) false).run Tryd.prog w = .ok ((F k).getD z) w := by
  obtain ⟨D, hD, hR, hH, _⟩ := hown
  obtain ⟨⟨zd, zp⟩, hzd⟩ := Option.isSome_iff_exists.1 hzR
  obtain ⟨v', ps, hrun, hv'⟩ := hD.lookup law_int ht hz hzd (key_int k1 k2)
  have e1 : v' = (F k).getD z := by
    cases hF : F k with
    | none =>
      have h2 := hH k
      rw [hF] at h2
      rw [Maps.atKey_of_not_has h2] at hv'
      exact mapR_inj hv' hzd
    | some u =>
      obtain ⟨ps', hu⟩ := hR k u hF
      exact mapR_inj hv' (hu zd)
  rw [hrun, e1]
theorem IMap.drop (hown : IMap w b n F) (ht : Tryd.prog.underlying t = some (.map 3 e)) {k : Int} (k1 : -9223372036854775808 ≤ k) (k2 : k ≤ 9223372036854775807) (ty : TypeId) :
    ∃ w', (Builtin.delete_ #[t, 3] ty #[.map (some b), .int .i64 k]).run Tryd.prog w = .ok (.tuple #[]) w' ∧ IMap w' b n (del F k) ∧ w.grownBy w' (some b) := by
  obtain ⟨D, hD, hR, hH, ks, hk1, hk2, hk3⟩ := hown
  have hT := hD.tidy law_int
  have hM := hD.isMap
  have dsame : del F k k = none := by unfold del; rw [if_pos rfl]
  have doth : ∀ {j}, j ≠ k → del F k j = F j := fun {j} h => by unfold del; rw [if_neg h]
  obtain ⟨w', hrun, h1, h2⟩ := hD.drop law_int ht (key_int k1 k2) ty
  refine ⟨w', hrun, ⟨_, h1, ?_, ?_, ?_⟩, h2.grown⟩
  · intro j y hj
    by_cases hjk : j = k
    · subst hjk; rw [dsame] at hj; cases hj
    · rw [doth hjk] at hj
      obtain ⟨ps', h3⟩ := hR j y hj
      exact ⟨ps', fun zd => by rw [Maps.atKey_del_other (by simpa using hjk)]; exact h3 zd⟩
  · intro j
    by_cases hjk : j = k
    · subst hjk; rw [dsame, Maps.has_del_same]; rfl
    · rw [doth hjk, Maps.has_del_other (by simpa using hjk)]; exact hH j
  · refine ⟨ks.filter (fun j => decide (j ≠ k)), hk1.filter _, fun j => ?_, ?_⟩
    · by_cases hjk : j = k
      · subst hjk; simp [dsame]
      · rw [doth hjk, List.mem_filter, hk2 j]; simp [hjk]
    · have h3 := Maps.size_del (k := .int .i64 k) hT
      rw [hH k, hk3] at h3
      have h4 : ∀ l : List Int, l.Nodup → (l.filter (fun j => decide (j ≠ k))).length + (if k ∈ l then 1 else 0) = l.length := by
        intro l
        induction l with
        | nil => intro _; simp
        | cons x l ih =>
          intro hn
          rw [List.nodup_cons] at hn
          have := ih hn.2
          by_cases hxk : x = k
          · subst hxk
            rw [List.filter_cons_of_neg (by simp)]
            rw [if_neg hn.1] at this
            simp at this ⊢; omega
          · rw [List.filter_cons_of_pos (by simpa using hxk)]
            simp only [List.length_cons, List.mem_cons]
            by_cases hk : k ∈ l
            · rw [if_pos hk] at this; rw [if_pos (Or.inr hk)]; omega
            · rw [if_neg hk] at this; rw [if_neg (by rintro (h | h); exact hxk h.symm; exact hk h)]; omega
      have h5 := h4 ks hk1
      by_cases hk : k ∈ ks
      · rw [if_pos hk] at h5; rw [if_pos ((hk2 k).1 hk)] at h3; omega
      · rw [if_neg hk] at h5; rw [if_neg (fun h => hk ((hk2 k).2 h))] at h3; omega
theorem IMap.count (hown : IMap w b n F) (ht : Tryd.prog.underlying t = some (.map 3 e)) (ty : TypeId) :
    ∃ ks : List Int, ks.Nodup ∧ (∀ k, k ∈ ks ↔ (F k).isSome = true) ∧ (Builtin.len_ #[t] ty #[.map (some b)]).run Tryd.prog w = .ok (.int .i64 ks.length) w := by
  obtain ⟨D, hD, hR, hH, ks, hk1, hk2, hk3⟩ := hown
  exact ⟨ks, hk1, hk2, by rw [hD.len ht ty, hk3]⟩
end
end Go.Proofs.YtghdacijcnmhlaaDoor
namespace Go.Proofs.YtghdacijcnmhlaaDoor
open Go.RowKit
set_option linter.unusedVariables false
set_option linter.unusedSimpArgs false
abbrev MC := Int → Option Value
abbrev MS := List (Nat × Nat × MC)
structure XS where
  fr : List AV
  H : AHeap
  M : MS
abbrev XS.as (s : XS) : AS := ⟨s.fr, s.H⟩
structure MOK (K : Nat → Option Obj) (G : Gh) (M : MS) : Prop where
  one : ∀ e ∈ M, K e.1 = none ∧ G.fz e.1 = none ∧ ∃ o, G.kp e.1 = some o ∧ ∀ w : World, w.heap[e.1]? = some o → IMap w e.1 e.2.1 e.2.2
  two : M.Pairwise fun a b => a.1 ≠ b.1
theorem MOK.nil (K : Nat → Option Obj) (G : Gh) : MOK K G [] := ⟨fun e h => (by cases h), List.Pairwise.nil⟩
theorem MOK.leb {K : Nat → Option Obj} {G G' : Gh} {M : MS} {m : Nat} (h : MOK K G M) (hle : Gh.leb m G G') : MOK K G' M :=
  ⟨fun e he => (by
    obtain ⟨h1, h2, o, h3, h4⟩ := h.one e he
    refine ⟨h1, ?_, o, hle.kp _ _ h3, h4⟩
    cases hf : G'.fz e.1 with
    | none => rfl
    | some y => obtain ⟨z, hz⟩ := hle.new _ _ _ h3 hf; rw [h2] at hz; cases hz), h.two⟩
def PostX (m : Nat) (G0 : Gh) (Q : Exit → XS → Prop) : Exit → Act → World → Prop := fun e a w => ∃ G' s', Gh.leb m G0 G' ∧ MOK G0.kp G' s'.M ∧ m ≤ s'.H.length ∧ Rst G' s'.as a w ∧ Q e s'
def AX (P : Program) (m : Nat) (c : Code) (Q : Exit → XS → Prop) (s : XS) : Prop := ∀ G0 G a w, m ≤ s.H.length → Gh.leb m G0 G → MOK G0.kp G s.M → Rst G s.as a w → c.wp P (PostX m G0 Q) a w
def LeadX (m : Nat) (s : XS) (S : XS → Prop) : Prop := ∀ G0 G a w, m ≤ s.H.length → Gh.leb m G0 G → MOK G0.kp G s.M → Rst G s.as a w → ∃ G' s', Gh.leb m G0 G' ∧ MOK G0.kp G' s'.M ∧ m ≤ s'.H.length ∧ Rst G' s'.as a w ∧ S s'
def thenX (next : XS → Prop) (Q : Exit → XS → Prop) : Exit → XS → Prop
  | .normal, s => next s
  | e, s => Q e s
def inBlockX (id : Nat) (Q : Exit → XS → Prop) : Exit → XS → Prop
  | .exit id', s => if id' = id then Q .normal s else Q (.exit id') s
  | e, s => Q e s
structure ContX (K R : XS → Prop) : Prop where
  use' : ∀ s, R s → K s
theorem ContX.use {K R : XS → Prop} (h : ContX K R) {s : XS} (hr : R s) : K s := h.use' s hr
section
variable {P : Program} {m : Nat} {Q : Exit → XS → Prop} {s : XS}
theorem LeadX.now {S : XS → Prop} (h : S s) : LeadX m s S := fun G0 G a w hm hl hM hr => ⟨G, s, hl, hM, hm, hr, h⟩
theorem LeadX.trans {S T : XS → Prop} (h : LeadX m s S) (k : ∀ s', S s' → LeadX m s' T) : LeadX m s T := fun G0 G a w hm hl hM hr => by
  obtain ⟨G1, s1, h1, h2, h3, h4, h5⟩ := h G0 G a w hm hl hM hr
  exact k s1 h5 G0 G1 a w h3 h1 h2 h4
theorem LeadX.mono {S T : XS → Prop} (h : LeadX m s S) (k : ∀ s', S s' → T s') : LeadX m s T := h.trans fun s' hs => .now (k s' hs)
theorem LeadX.of {fr : List AV} {H : AHeap} {M : MS} {S : XS → Prop} (h : Leads m ⟨fr, H⟩ fun s' => S ⟨s'.fr, s'.H, M⟩) : LeadX m ⟨fr, H, M⟩ S := fun G0 G a w hm hl hM hr => by
  obtain ⟨G1, s1, h1, h2, h3, h4⟩ := h G a w hm hr
  exact ⟨G1, ⟨s1.fr, s1.H, M⟩, hl.trans h1, hM.leb h1, h2, h3, h4⟩
theorem AX_lead {S : XS → Prop} {c : Code} (h : LeadX m s S) (k : ∀ s', S s' → AX P m c Q s') : AX P m c Q s := fun G0 G a w hm hl hM hr => by
  obtain ⟨G1, s1, h1, h2, h3, h4, h5⟩ := h G0 G a w hm hl hM hr
  exact k s1 h5 G0 G1 a w h3 h1 h2 h4
theorem AX_of {fr : List AV} {H : AHeap} {M : MS} {c : Code} (h : AW P c (fun e s' => Q e ⟨s'.fr, s'.H, M⟩) ⟨fr, H⟩) : AX P m c Q ⟨fr, H, M⟩ := fun G0 G a w hm hl hM hr =>
  wp_mono (h G a w hr) fun e a w ⟨G', s', h1, h2, h3, h4⟩ => ⟨G', ⟨s'.fr, s'.H, M⟩, hl.trans (h1.leb hm), hM.leb (h1.leb hm), Nat.le_trans hm h2, h3, h4⟩
theorem AX.mono {c : Code} {Q' : Exit → XS → Prop} (h : AX P m c Q s) (hq : ∀ e s, Q e s → Q' e s) : AX P m c Q' s := fun G0 G a w hm hl hM hr =>
  wp_mono (h G0 G a w hm hl hM hr) fun e a w ⟨G', s', h1, h2, h3, h4, h5⟩ => ⟨G', s', h1, h2, h3, h4, hq _ _ h5⟩
theorem PostX.now {G0 G : Gh} {e : Exit} {a : Act} {w : World} (hm : m ≤ s.H.length) (hl : Gh.leb m G0 G) (hM : MOK G0.kp G s.M) (hr : Rst G s.as a w) (hq : Q e s) : PostX m G0 Q e a w := ⟨G, s, hl, hM, hm, hr, hq⟩
theorem AX_skip (h : Q .normal s) : AX P m .skip Q s := fun G0 G a w hm hl hM hr => wp_skip (PostX.now hm hl hM hr h)
theorem AX_label {l : Nat} (h : Q .normal s) : AX P m (.label l) Q s := fun G0 G a w hm hl hM hr => wp_label (PostX.now hm hl hM hr h)
theorem AX_exit {id : Nat} (h : Q (.exit id) s) : AX P m (.exit id) Q s := fun G0 G a w hm hl hM hr => wp_exit (PostX.now hm hl hM hr h)
theorem AX_goto {l : Nat} (h : Q (.goto l) s) : AX P m (.goto l) Q s := fun G0 G a w hm hl hM hr => wp_goto (PostX.now hm hl hM hr h)
theorem AX_ret (h : Q .ret s) : AX P m .ret Q s := fun G0 G a w hm hl hM hr => wp_ret (PostX.now hm hl hM hr h)
theorem AX_seq {x y : Code} (h : AX P m x (thenX (AX P m y Q) Q) s) : AX P m (.seq x y) Q s := fun G0 G a w hm hl hM hr =>
  wp_seq (wp_mono (h G0 G a w hm hl hM hr) fun e a w ⟨G', s', h1, h2, h3, h4, h5⟩ => by
    cases e with
    | normal => exact (show AX P m y Q s' from h5) G0 G' a w h3 h1 h2 h4
    | _ => exact ⟨G', s', h1, h2, h3, h4, h5⟩)
theorem AX_seq_k {x y : Code} (h : ∀ K : XS → Prop, ContX K (AX P m y Q) → AX P m x (thenX K Q) s) : AX P m (.seq x y) Q s := AX_seq (h _ ⟨fun _ h => h⟩)
theorem AX_block {id : Nat} {c : Code} (h : AX P m c (inBlockX id Q) s) : AX P m (.block id c) Q s := fun G0 G a w hm hl hM hr =>
  wp_block (wp_mono (h G0 G a w hm hl hM hr) fun e a w ⟨G', s', h1, h2, h3, h4, h5⟩ => by
    cases e with
    | exit id' =>
      show Exit.inBlock id _ (.exit id') a w
      unfold Exit.inBlock
      unfold inBlockX at h5
      dsimp only at h5 ⊢
      split at h5
      · rename_i he; rw [if_pos he]; exact ⟨G', s', h1, h2, h3, h4, h5⟩
      · rename_i he; rw [if_neg he]; exact ⟨G', s', h1, h2, h3, h4, h5⟩
    | _ => exact ⟨G', s', h1, h2, h3, h4, h5⟩)
theorem AX_cond {fr : List AV} {H : AHeap} {M : MS} {c : Operand} {x y : Code} (b : Bool) (hc : AS.ev ⟨fr, H⟩ c = lt (.bool b)) (ht : b = true → AX P m x Q ⟨fr, H, M⟩) (hf : b = false → AX P m y Q ⟨fr, H, M⟩) : AX P m (.cond c x y) Q ⟨fr, H, M⟩ := fun G0 G a w hm hl hM hr => by
  have h := hr.ev c
  rw [hc] at h
  cases b with
  | true => exact wp_cond_true h.lit_inv (ht rfl G0 G a w hm hl hM hr)
  | false => exact wp_cond_false h.lit_inv (hf rfl G0 G a w hm hl hM hr)
theorem AX_if_t {fr : List AV} {H : AHeap} {M : MS} {c : Operand} {x y : Code} (hc : AS.ev ⟨fr, H⟩ c = lt (.bool true)) (h : AX P m x Q ⟨fr, H, M⟩) : AX P m (.cond c x y) Q ⟨fr, H, M⟩ := AX_cond true hc (fun _ => h) (fun h => by cases h)
theorem AX_if_f {fr : List AV} {H : AHeap} {M : MS} {c : Operand} {x y : Code} (hc : AS.ev ⟨fr, H⟩ c = lt (.bool false)) (h : AX P m y Q ⟨fr, H, M⟩) : AX P m (.cond c x y) Q ⟨fr, H, M⟩ := AX_cond false hc (fun h => by cases h) (fun _ => h)
theorem AX_loop {c : Code} (I : Nat → XS → Prop) (n0 : Nat) (h0 : LeadX m s (I n0)) (round : ∀ n s, I n s → AX P m c (thenX (fun s' => LeadX m s' fun s1 => ∃ k, k < n ∧ I k s1) Q) s) : AX P m (.loop c) Q s := fun G0 G a w hm hl hM hr b k cs => by
  have key : ∀ n s, I n s → ∀ G a w, m ≤ s.H.length → Gh.leb m G0 G → MOK G0.kp G s.M → Rst G s.as a w → ∃ e a' w', PostX m G0 Q e a' w' ∧ Arrives P (lone (b.at a (.code c :: .inLoop c :: k)) cs w) b k cs e a' w' := by
    intro n
    induction n using Nat.strongRecOn with
    | _ n ih =>
      intro s hI G a w hm hl hM hr
      obtain ⟨e, a1, w1, ⟨G', s', h1, h2, h3, h4, h5⟩, harr⟩ := round n s hI G0 G a w hm hl hM hr b (.inLoop c :: k) cs
      cases e with
      | normal =>
        obtain ⟨G1, s1, g1, g2, g3, g4, m', hlt, hI1⟩ := (show LeadX m s' _ from h5) G0 G' a1 w1 h3 h1 h2 h4
        obtain ⟨e2, a2, w2, hp, harr2⟩ := ih m' hlt s1 hI1 G1 a1 w1 g3 g1 g2 g4
        exact ⟨e2, a2, w2, hp, .of_steps (Steps.trans harr (.one step_inLoop)) harr2⟩
      | exit id => exact ⟨_, a1, w1, ⟨G', s', h1, h2, h3, h4, h5⟩, .pass (x := .inLoop c) rfl (fun _ _ => .inl (by simp)) harr⟩
      | goto l => exact ⟨_, a1, w1, ⟨G', s', h1, h2, h3, h4, h5⟩, .pass (x := .inLoop c) rfl (fun _ _ => .inl (by simp)) harr⟩
      | ret => exact ⟨_, a1, w1, ⟨G', s', h1, h2, h3, h4, h5⟩, .pass (x := .inLoop c) rfl (fun _ _ => .inl (by simp)) harr⟩
      | panic ch => exact ⟨_, a1, w1, ⟨G', s', h1, h2, h3, h4, h5⟩, .pass (x := .inLoop c) rfl (fun _ _ => .inl (by simp)) harr⟩
      | outgrown => exact ⟨_, a1, w1, ⟨G', s', h1, h2, h3, h4, h5⟩, .pass (x := .inLoop c) rfl (fun _ _ => .inl (by simp)) harr⟩
  obtain ⟨G1, s0, g1, g2, g3, g4, g5⟩ := h0 G0 G a w hm hl hM hr
  obtain ⟨e, a', w', hq, harr⟩ := key n0 s0 g5 G1 a w g3 g1 g2 g4
  exact ⟨e, a', w', hq, .of_steps (.one step_loop) harr⟩
def WhX {σ : Type} (m : Nat) (ds : List Nat) (f : σ → List (Nat × AV)) (hp : σ → AHeap) (mp : σ → MS) (I : σ → Prop) (mm : σ → Nat) (fr0 : List AV) (n : Nat) (s' : XS) : Prop := LeadX m s' fun s1 => ∃ (st' : σ) (d' : Nat → Value), s1 = ⟨updS (deadS fr0 (fun i => lt (d' i)) ds) (f st'), hp st', mp st'⟩ ∧ I st' ∧ mm st' < n
theorem AX_wh {σ : Type} {fr : List AV} {H : AHeap} {M : MS} {c : Code} (ds : List Nat) (f : σ → List (Nat × AV)) (hp : σ → AHeap) (mp : σ → MS) (I : σ → Prop) (mm : σ → Nat) (st0 : σ) (h0 : ∀ d : Nat → AV, deadS fr d ds = updS (deadS fr d ds) (f st0)) (hh0 : H = hp st0) (hm0 : M = mp st0) (hI : I st0)
    (round : ∀ (st : σ) (d : Nat → Value) (fr1 : List AV), fr1 = updS (deadS fr (fun i => lt (d i)) ds) (f st) → I st → AX P m c (thenX (WhX m ds f hp mp I mm fr (mm st)) Q) ⟨fr1, hp st, mp st⟩) : AX P m (.loop c) Q ⟨fr, H, M⟩ := by
  refine AX_loop (fun n s1 => ∃ (st : σ) (d : Nat → Value), s1 = ⟨updS (deadS fr (fun i => lt (d i)) ds) (f st), hp st, mp st⟩ ∧ I st ∧ mm st = n) (mm st0) (.of (.dead ds fun d => ⟨st0, d, by rw [← h0, hh0, hm0], hI, rfl⟩)) ?_
  rintro n s1 ⟨st, d, rfl, hst, rfl⟩
  refine (round st d _ rfl hst).mono fun e s h => ?_
  cases e with
  | normal => exact LeadX.mono h fun s' ⟨st', d', h1, h2, h3⟩ => ⟨mm st', h3, st', d', h1, h2, rfl⟩
  | _ => exact h
theorem whx_ren {σ : Type} {m : Nat} {ds : List Nat} {f : σ → List (Nat × AV)} {hp : σ → AHeap} {mp : σ → MS} {I : σ → Prop} {mm : σ → Nat} {fr0 : List AV} {n : Nat} {fr : List AV} {H : AHeap} {M : MS} (sel : List Nat) (st' : σ) (hI : I st') (hm : mm st' < n) (hM : M = mp st') (hs1 : sel.Nodup) (hs2 : sel.all (fun p => decide (m ≤ p)) = true)
    (hH : okH (named m sel) (H.take m ++ sel.map (atH H)) = true) (hF : okF (named m sel) ds 0 fr = true) (hh : selH m sel H = hp st')
    (h : ∀ d : Nat → AV, deadS (fr.map (AV.rn (newNo m sel))) d ds = updS (deadS fr0 d ds) (f st')) : WhX m ds f hp mp I mm fr0 n ⟨fr, H, M⟩ :=
  LeadX.of (Leads.ren sel ds hs1 hs2 hH hF fun d => ⟨st', d, by rw [h, hh, hM], hI, hm⟩)
theorem whx_end {σ : Type} {m : Nat} {ds : List Nat} {f : σ → List (Nat × AV)} {hp : σ → AHeap} {mp : σ → MS} {I : σ → Prop} {mm : σ → Nat} {fr0 : List AV} {n : Nat} {fr : List AV} {H : AHeap} {M : MS} (st' : σ) (hI : I st') (hm : mm st' < n) (hM : M = mp st') (hh : H = hp st')
    (h : ∀ d : Nat → AV, deadS fr d ds = updS (deadS fr0 d ds) (f st')) : WhX m ds f hp mp I mm fr0 n ⟨fr, H, M⟩ :=
  LeadX.of (Leads.dead ds fun d => ⟨st', d, by rw [h, hh, hM], hI, hm⟩)
def MidX (m : Nat) (ds : List Nat) (ups : List (Nat × AV)) (H' : AHeap) (M' : MS) (fr0 : List AV) (s' : XS) : Prop := LeadX m s' fun s1 => ∃ d : Nat → Value, s1 = ⟨updS (deadS fr0 (fun i => lt (d i)) ds) ups, H', M'⟩
theorem AX_ren {fr : List AV} {H : AHeap} {M : MS} {c : Code} (sel ds : List Nat) (fr' : List AV) (H' : AHeap) (hs1 : sel.Nodup) (hs2 : sel.all (fun p => decide (m ≤ p)) = true) (hH : okH (named m sel) (H.take m ++ sel.map (atH H)) = true) (hF : okF (named m sel) ds 0 fr = true)
    (hh : selH m sel H = H') (hfr : fr.map (AV.rn (newNo m sel)) = fr') (h : ∀ d : Nat → Value, AX P m c Q ⟨deadS fr' (fun i => lt (d i)) ds, H', M⟩) : AX P m c Q ⟨fr, H, M⟩ :=
  AX_lead (S := fun s1 => ∃ d : Nat → Value, s1 = ⟨deadS fr' (fun i => lt (d i)) ds, H', M⟩) (.of (.ren sel ds hs1 hs2 hH hF fun d => ⟨d, by rw [hfr, hh]⟩)) fun s' ⟨d, e⟩ => by rw [e]; exact h d
theorem AX_nil {fr : List AV} {H : AHeap} {M : MS} {c : Code} (i t sz : Nat) (hi : fr[i]? = some (lt (.slice none 0 0))) (h : AX P m c Q ⟨fr.set i (.osl H.length 0 0 sz), H ++ [some ⟨t, []⟩], M⟩) : AX P m c Q ⟨fr, H, M⟩ :=
  AX_lead (S := fun s1 => s1 = ⟨fr.set i (.osl H.length 0 0 sz), H ++ [some ⟨t, []⟩], M⟩) (.of (.nil i t sz hi rfl)) fun s' e => by rw [e]; exact h
theorem Leads.freeze {s : AS} {S : AS → Prop} (ds : List Nat) (ups : List (Nat × AV)) (hu : ∀ p ∈ ups, FrzV (onlyH ds s.H) (s.fr.getD p.1 uD) p.2) (h : S ⟨updS s.fr ups, setN ds s.H⟩) : Leads m s S := fun G a w hm hr => by
  obtain ⟨G', h1, h2⟩ := hr.freeze ds (FrL.upd (FrL.same _ _) hu)
  exact ⟨G', _, h1.leb hm, by show m ≤ (setN ds s.H).length; rw [setN_len]; exact hm, h2, h⟩
theorem AX_freeze {fr : List AV} {H : AHeap} {M : MS} {c : Code} (ds : List Nat) (ups : List (Nat × AV)) (hu : ∀ p ∈ ups, FrzV (onlyH ds H) (fr.getD p.1 uD) p.2) (h : AX P m c Q ⟨updS fr ups, setN ds H, M⟩) : AX P m c Q ⟨fr, H, M⟩ :=
  AX_lead (S := fun s1 => s1 = ⟨updS fr ups, setN ds H, M⟩) (.of (.freeze ds ups hu rfl)) fun s' e => by rw [e]; exact h
def bodyX (P : Program) (fn : Func) (load : AHeap → TypeId → AV → Option AV) (Q : AV → AHeap → Prop) : Exit → XS → Prop
  | .normal, s | .ret, s => ∃ r, aresults P fn s.as (load s.H) = some r ∧ Q r s.H
  | _, _ => False
theorem SF_of_bodyX {f : FuncId} {fn : Func} {c : Code} {args : List AV} {H : AHeap} {Q : AV → AHeap → Prop} (load : AHeap → TypeId → AV → Option AV) (hl : ∀ H, LoadOk P H (load H)) (hf : P.funcs[f]? = some fn) (hb : fn.body = some c) (hname : (fn.name == "runtime.NumGoroutine") = false)
    (h : AX P H.length c (bodyX P fn load Q) ⟨args ++ List.replicate (fn.ntmps - args.length) uD, H, []⟩) : SF P f args H Q := by
  refine ⟨⟨fn, hf, hname, by rw [hb]; rfl⟩, fun G w vs hi hr => ?_⟩
  refine calls_of_wp hf hb ?_
  refine wp_mono (h G G _ w (Nat.le_refl _) (Gh.leb.refl _ _) (.nil _ _) ⟨rfl, ?_, hi⟩) ?_
  · simp only [Array.toList_append, Array.toList_replicate]
    refine RL.append hr ⟨by simp [hr.1], fun i x v h1 h2 => ?_⟩
    rw [List.getElem?_replicate] at h1 h2
    split at h1 <;> split at h2 <;> simp_all
    subst h1 h2
    exact .iv _ _ (.lit _)
  · rintro e a w' ⟨G', s', hleb, _, hn, hr', hq⟩
    have hle := hleb.le hi.dom
    cases e with
    | normal =>
      obtain ⟨r, h1, h2⟩ := hq
      obtain ⟨v, h3, h4⟩ := aresults_run (hl _) hr' h1
      exact ⟨hr'.defers, v, h3, v, r, G', s'.H, rfl, hle, hn, hr'.inv, h4, h2⟩
    | ret =>
      obtain ⟨r, h1, h2⟩ := hq
      obtain ⟨v, h3, h4⟩ := aresults_run (hl _) hr' h1
      exact ⟨hr'.defers, v, h3, v, r, G', s'.H, rfl, hle, hn, hr'.inv, h4, h2⟩
    | _ => exact hq.elim
end
end Go.Proofs.YtghdacijcnmhlaaDoor
namespace Go.Proofs.YtghdacijcnmhlaaDoor
open Go.RowKit
set_option linter.unusedVariables false
set_option linter.unusedSimpArgs false
section
variable {P : Program} {tt : TT} {m : Nat} {Q : Exit → XS → Prop} {fr : List AV} {H : AHeap} {M : MS} {l : List Oper} {o : Oper}
def XRes (P : Program) (m : Nat) (Q : Exit → XS → Prop) (p : List Oper × XS) : Prop := ∀ n, p.2.fr.length ≤ n → ∀ G0 G a w, m ≤ p.2.H.length → Gh.leb m G0 G → MOK G0.kp G p.2.M → Rst G p.2.as a w → wpList P (idB n) (PostX m G0 Q) p.1 a w
theorem XRes_id {p : List Oper × XS} (h : XRes P m Q p) : XRes P m Q p := h
theorem XRes_nil {s : XS} (h : Q .normal s) : XRes P m Q ([], s) := fun n hn G0 G a w hm hl hM hr => PostX.now hm hl hM hr h
theorem XRes_lead {S : XS → Prop} {s : XS} (h : LeadX m s S) (k : ∀ s', S s' → s'.fr.length = s.fr.length → XRes P m Q (l, s')) : XRes P m Q (l, s) := fun n hn G0 G a w hm hl hM hr => by
  obtain ⟨G1, s1, h1, h2, h3, h4, h5⟩ := h G0 G a w hm hl hM hr
  have e : s1.fr.length = s.fr.length := h4.fr.1.trans hr.fr.1.symm
  exact k s1 h5 e n (by rw [e]; exact hn) G0 G1 a w h3 h1 h2 h4
theorem XRes_skip (hw : wantedS fr o = some false) (h : XRes P m Q (l, ⟨putL fr o.dst uD, H, M⟩)) : XRes P m Q (o :: l, ⟨fr, H, M⟩) := fun n hn G0 G a w hm hl hM hr => by
  unfold wpList
  rw [hr.wanted (ops := idB n) (o := o) (b := false) (by rw [wantedS_ok hn]; exact hw)]
  exact h n (by show (putL _ _ _).length ≤ n; rw [putL_len]; exact hn) G0 G _ w hm hl hM (hr.put (Gh.le.refl _ _) (Nat.le_refl _) hr.inv (.iv _ _ (.lit _)) o.dst)
theorem XRes_gives {x : AV} {H' : AHeap} (hw : wantedS fr o = some true) (hg : Gives1 P ⟨fr, H⟩ o x H') (h : XRes P m Q (l, ⟨putL fr o.dst x, H', M⟩)) : XRes P m Q (o :: l, ⟨fr, H, M⟩) := fun n hn G0 G a w hm hl hM hr => by
  unfold wpList
  rw [if_pos (hr.wanted (ops := idB n) (o := o) (b := true) (by rw [wantedS_ok hn]; exact hw))]
  obtain ⟨G', v, w', hrun, hle, hn', hi, hx⟩ := hg G a w hr
  have hr' := hr.put hle hn' hi hx o.dst
  have hl' := h n (by show (putL _ _ _).length ≤ n; rw [putL_len]; exact hn) G0 G' _ w' (Nat.le_trans hm hn') (hl.trans (hle.leb hm)) (hM.leb (hle.leb hm)) hr'
  refine .inl ?_
  unfold Oper.wp
  rcases hrun with hrun | ⟨hrun, rfl⟩
  · rw [hrun]; exact hl'
  · rw [hrun]; exact hl'
theorem XRes_op (hT : TyOK P tt) (hw : wantedS fr o = some true) (h : match aop tt ⟨fr, H⟩ o with | some (x, H') => XRes P m Q (l, ⟨putL fr o.dst x, H', M⟩) | none => False) : XRes P m Q (o :: l, ⟨fr, H, M⟩) := by
  cases hx : aop tt ⟨fr, H⟩ o with
  | none => rw [hx] at h; exact h.elim
  | some p =>
    obtain ⟨x, H'⟩ := p
    rw [hx] at h
    exact XRes_gives hw (aop_gives hT hx) h
theorem XRes_splitG {d : Option Tmp} {op : Op} {ty : TypeId} {pos : String} {after : Array Edge} {j : Nat} {want b : Bool} (hj : fr[j]? = some (lt (.bool b)))
    (ht : b = true → XRes P m Q (⟨d, op, ty, pos, after, some (j + 1, want)⟩ :: l, ⟨fr.set j (lt (.bool true)), H, M⟩)) (hf : b = false → XRes P m Q (⟨d, op, ty, pos, after, some (j + 1, want)⟩ :: l, ⟨fr.set j (lt (.bool false)), H, M⟩)) : XRes P m Q (⟨d, op, ty, pos, after, some (j + 1, want)⟩ :: l, ⟨fr, H, M⟩) := by
  have e : ∀ {x : AV}, fr[j]? = some x → fr.set j x = fr := fun {x} hx => by
    apply List.ext_getElem?
    intro i
    by_cases hi : j = i
    · subst hi; rw [List.getElem?_set_self (List.getElem?_eq_some_iff.1 hx).1, hx]
    · rw [List.getElem?_set_ne hi]
  cases b with
  | true => have := ht rfl; rwa [e hj] at this
  | false => have := hf rfl; rwa [e hj] at this
theorem ADF_splitG {H0 : AHeap} {K : List AV → AHeap → Prop} {d : Option Tmp} {op : Op} {ty : TypeId} {pos : String} {after : Array Edge} {j : Nat} {want b : Bool} (hj : fr[j]? = some (lt (.bool b)))
    (ht : b = true → ADF P H0 K (⟨d, op, ty, pos, after, some (j + 1, want)⟩ :: l, fr.set j (lt (.bool true)))) (hf : b = false → ADF P H0 K (⟨d, op, ty, pos, after, some (j + 1, want)⟩ :: l, fr.set j (lt (.bool false)))) : ADF P H0 K (⟨d, op, ty, pos, after, some (j + 1, want)⟩ :: l, fr) := by
  have e : ∀ {x : AV}, fr[j]? = some x → fr.set j x = fr := fun {x} hx => by
    apply List.ext_getElem?
    intro i
    by_cases hi : j = i
    · subst hi; rw [List.getElem?_set_self (List.getElem?_eq_some_iff.1 hx).1, hx]
    · rw [List.getElem?_set_ne hi]
  cases b with
  | true => have := ht rfl; rwa [e hj] at this
  | false => have := hf rfl; rwa [e hj] at this
theorem ADF_id {H0 : AHeap} {K : List AV → AHeap → Prop} {p : List Oper × List AV} (h : ADF P H0 K p) : ADF P H0 K p := h
theorem XRes_callv {d : Option Tmp} {fo : Operand} {args : Array Operand} {tys : Array TypeId} {ty : TypeId} {pos : String} {after : Array Edge} {g : Option (Nat × Bool)}
    (hw : wantedS fr ⟨d, .call { callee := .value fo, args := args, argTypes := tys }, ty, pos, after, g⟩ = some true)
    {f : FuncId} {first caps : List AV} (hf : AS.ev ⟨fr, H⟩ fo = .fn f first caps) {K : AV → AHeap → Prop} (hc : SF P f (first ++ args.toList.map (AS.ev ⟨fr, H⟩) ++ caps) H K)
    (h : ∀ r H', H.length ≤ H'.length → K r H' → XRes P m Q (l, ⟨putL fr d r, H', M⟩)) : XRes P m Q (⟨d, .call { callee := .value fo, args := args, argTypes := tys }, ty, pos, after, g⟩ :: l, ⟨fr, H, M⟩) := fun n hn G0 G a w hm hl hM hr => by
  unfold wpList
  rw [if_pos (hr.wanted (ops := idB n) (b := true) (by rw [wantedS_ok hn]; exact hw))]
  refine .inl ?_
  have hfe := hr.ev fo
  rw [hf] at hfe
  generalize hfv : a.eval fo = fv at hfe
  cases hfe with
  | fn _ _ _ vs us h1 h2 h3 h4 =>
    have hargs : RL H.length G (first ++ args.toList.map (AS.ev ⟨fr, H⟩) ++ caps) (vs ++ args.toList.map a.eval ++ us) := RL.append (RL.append ⟨h1, h3⟩ (AS.args hr _)) ⟨h2, h4⟩
    have hrun : (execOp a.eval ⟨d, .call { callee := .value fo, args := args, argTypes := tys }, ty, pos, after, g⟩).run P w = .ok (.enter f (vs ++ args.toList.map a.eval ++ us).toArray) w := by
      have e : (vs ++ args.toList.map a.eval ++ us).toArray = vs.toArray ++ args.map a.eval ++ us.toArray := by
        apply Array.toList_inj.1; simp
      rw [e]
      simp [execOp, resolve, hfv, Deferred.ofValue, invoke, run_enter hc.callable]
    unfold Oper.wp
    rw [hrun]
    refine (hc.calls G w _ hr.inv hargs).mono fun e w' hp => ?_
    obtain ⟨v, r, G', H', rfl, hle, hn', hi, hx, hk⟩ := hp
    exact h r H' hn' hk n (by show (putL _ _ _).length ≤ n; rw [putL_len]; exact hn) G0 G' _ w' (Nat.le_trans hm hn') (hl.trans (hle.leb hm)) (hM.leb (hle.leb hm)) (hr.put hle hn' hi hx d)
theorem XRes_fn {d : Option Tmp} {f : FuncId} {args : Array Operand} {tys : Array TypeId} {ty : TypeId} {pos : String} {after : Array Edge} {g : Option (Nat × Bool)}
    (hw : wantedS fr ⟨d, .call { callee := .value (.func f), args := args, argTypes := tys }, ty, pos, after, g⟩ = some true) {K : AV → AHeap → Prop} (hc : SF P f (args.toList.map (AS.ev ⟨fr, H⟩)) H K)
    (h : ∀ r H', K r H' → XRes P m Q (l, ⟨putL fr d r, H', M⟩)) : XRes P m Q (⟨d, .call { callee := .value (.func f), args := args, argTypes := tys }, ty, pos, after, g⟩ :: l, ⟨fr, H, M⟩) :=
  XRes_callv hw rfl (by simpa using hc) fun r H' _ hk => h r H' hk
theorem XRes_slot {d : Option Tmp} {t : Tmp} {args : Array Operand} {tys : Array TypeId} {ty : TypeId} {pos : String} {after : Array Edge} {g : Option (Nat × Bool)}
    (hw : wantedS fr ⟨d, .call { callee := .value (.tmp t), args := args, argTypes := tys }, ty, pos, after, g⟩ = some true)
    {f : FuncId} {first caps : List AV} (hf : fr[t]? = some (.fn f first caps)) {K : AV → AHeap → Prop} (hc : SF P f (first ++ args.toList.map (AS.ev ⟨fr, H⟩) ++ caps) H K)
    (h : ∀ r H', K r H' → XRes P m Q (l, ⟨putL fr d r, H', M⟩)) : XRes P m Q (⟨d, .call { callee := .value (.tmp t), args := args, argTypes := tys }, ty, pos, after, g⟩ :: l, ⟨fr, H, M⟩) :=
  XRes_callv hw (by show fr.getD t uD = _; rw [List.getD_eq_getElem?_getD, hf]; rfl) hc fun r H' _ hk => h r H' hk
theorem XRes_tell {d : Option Tmp} {f : FuncId} {args : Array Operand} {tys : Array TypeId} {ty : TypeId} {pos : String} {after : Array Edge} {g : Option (Nat × Bool)}
    (hw : wantedS fr ⟨d, .call { callee := .value (.func f), args := args, argTypes := tys }, ty, pos, after, g⟩ = some true) {x : AV} (hc : PF P f (args.toList.map (AS.ev ⟨fr, H⟩)) fun r H' => r = x ∧ H' = []) (hargs : ∀ a ∈ args.toList.map (AS.ev ⟨fr, H⟩), Ids 0 a) (hx : ∀ k, x.ren k = x)
    (h : XRes P m Q (l, ⟨putL fr d x, H, M⟩)) : XRes P m Q (⟨d, .call { callee := .value (.func f), args := args, argTypes := tys }, ty, pos, after, g⟩ :: l, ⟨fr, H, M⟩) :=
  XRes_fn hw (K := fun r H1 => r = x ∧ H1 = H) (by simpa using PF.tells (H := H) hargs hx hc) fun r H' ⟨e1, e2⟩ => by subst e1 e2; exact h
theorem XRes_freeze (ds : List Nat) (ups : List (Nat × AV)) (hu : ∀ p ∈ ups, FrzV (onlyH ds H) (fr.getD p.1 uD) p.2) (h : XRes P m Q (l, ⟨updS fr ups, setN ds H, M⟩)) : XRes P m Q (l, ⟨fr, H, M⟩) :=
  XRes_lead (S := fun s1 => s1 = ⟨updS fr ups, setN ds H, M⟩) (.of (.freeze ds ups hu rfl)) fun s' e _ => by rw [e]; exact h
theorem XRes_lit (hT : TyOK P tt) (y : IV) (hw : wantedS fr o = some true) {x : AV} {obj : AObj} (ha : aop tt ⟨fr, H⟩ o = some (x, H ++ [some obj])) (hs : SnapC (onlyH [H.length] (H ++ [some obj])) x y) (h : XRes P m Q (l, ⟨putL fr o.dst (.iv y), H, M⟩)) : XRes P m Q (o :: l, ⟨fr, H, M⟩) := fun n hn G0 G a w hm hl hM hr => by
  unfold wpList
  rw [if_pos (hr.wanted (ops := idB n) (o := o) (b := true) (by rw [wantedS_ok hn]; exact hw))]
  refine .inl ?_
  refine does_lit (ops := idB n) hT ha hs _ G a w _ hr.inv ⟨by simpa using hr.fr.1, fun t _ => by rw [arr_getD]; exact hr.fr.getD t⟩ fun G' v w' hle hn' hi hx => ?_
  exact h n (by show (putL _ _ _).length ≤ n; rw [putL_len]; exact hn) G0 G' _ w' (Nat.le_trans hm hn') (hl.trans (hle.leb hm)) (hM.leb (hle.leb hm)) (hr.put hle hn' hi hx o.dst)
theorem AX_reg0 {id : Nat} {ops : List Oper} {s : XS} (h : ∀ K : XS → Prop, (∀ s, Q .normal s → K s) → XRes P m (thenX K fun _ _ => False) (ops.map (strip (dsts ops)), s)) : AX P m (.region id ops.toArray false) Q s := fun G0 G a w hm hl hM hr => by
  refine wp_region_list ?_
  have hx := h (fun s => Q .normal s) (fun _ h => h) (max s.fr.length (topD (dsts ops))) (Nat.le_max_left _ _) G0 G a w hm hl hM hr
  have hx' : wpList P (idB (max s.fr.length (topD (dsts ops)))) (PostX m G0 Q) (ops.map (strip (dsts ops))) a w := wpList_mono (fun e a w ⟨G', s', h1, h2, h3, h4, h5⟩ => ⟨G', s', h1, h2, h3, h4, by cases e <;> first | exact h5 | exact h5.elim⟩) _ _ _ hx
  rw [wpList_strip (Nat.le_max_right _ _)] at hx'
  simpa using hx'
theorem AX_drawG (hT : TyOK P tt) (hm : P.follows .mixedOrders = true) {id : Nat} {ops : List Oper} (hord : ordOK ops.toArray ops.length (alG ops) = true)
    (h : ∀ (K : List AV → AHeap → Prop), (∀ F H', Q .normal ⟨F, H', M⟩ → K F H') → ADF P H K (ops.map (strip (dsts ops)), fr)) : AX P m (.region id ops.toArray true) Q ⟨fr, H, M⟩ :=
  AX_of (AW_drawG hT hm _ rfl hord fun K hK => h K fun F H' hq => hK F H' hq)
theorem Inv.block_set {G : Gh} {H : AHeap} {w w' : World} (h : Inv G H w) {b : Nat} {ob : Obj} (hfz : G.fz b = none) (hobj : ∀ o x, H[o]? = some (some x) → G.sz o ≠ 0 → (G.mu o).1 ≠ b) (hb : w'.heap[b]? = some ob) (hg : w.grownBy w' (some b)) : Inv { G with kp := fun c => if c = b then some ob else G.kp c } H w' := by
  have same : ∀ {c x}, c ≠ b → w.heap[c]? = some x → w'.heap[c]? = some x := fun {c x} hc e => by rw [hg.block c (lt_of_heap e) (fun e => by cases e; exact hc rfl)]; exact e
  refine ⟨hg.os.trans h.os, hg.tape.trans h.tape, hg.output.trans h.output, fun c x e => ?_, fun c x e => ?_, h.dom, h.live, fun o x e => ?_, h.inj⟩
  · refine same (fun hc => ?_) (h.fz c x e)
    subst hc
    have e' : G.fz c = some x := e
    rw [hfz] at e'; cases e'
  · have e' : (if c = b then some ob else G.kp c) = some x := e
    split at e'
    · rename_i hc; subst hc; cases e'; exact hb
    · rename_i hc; exact same hc (h.kp c x e')
  · refine (h.obj o x e).imp id fun ⟨k0, cs, k1, k2, k3, k4, k5, k6⟩ => ⟨k0, cs, ?_⟩
    have hne := hobj o x e k0
    exact ⟨same hne k1, k2, ⟨k3.1, fun i y v e1 e2 => (k3.2 i y v e1 e2).kpany⟩, k4, k5, by show (if (G.mu o).1 = b then some ob else G.kp (G.mu o).1) = none; rw [if_neg hne]; exact k6⟩
theorem Rst.block_set {G : Gh} {s : AS} {a : Act} {w w' : World} (hr : Rst G s a w) {b : Nat} {ob : Obj} (hfz : G.fz b = none) (hobj : ∀ o x, s.H[o]? = some (some x) → G.sz o ≠ 0 → (G.mu o).1 ≠ b) (hb : w'.heap[b]? = some ob) (hg : w.grownBy w' (some b)) (d : Option Tmp) {x : AV} {v : Value} (hx : RA s.H.length G x v) : Rst { G with kp := fun c => if c = b then some ob else G.kp c } ⟨putL s.fr d x, s.H⟩ (a.put d v) w' := by
  refine ⟨?_, ?_, hr.inv.block_set hfz hobj hb hg⟩
  · cases d <;> exact hr.defers
  · have hfr : RL s.H.length { G with kp := fun c => if c = b then some ob else G.kp c } s.fr a.tmps.toList := ⟨hr.fr.1, fun i y v e1 e2 => (hr.fr.2 i y v e1 e2).kpany⟩
    cases d with
    | none => exact hfr
    | some d =>
      simp only [putL, Act.put, Array.toList_setIfInBounds]
      exact hfr.set d hx.kpany
theorem leb_block {m : Nat} {G0 G : Gh} (hl : Gh.leb m G0 G) {b : Nat} (ob : Obj) (hK : G0.kp b = none) (hfz : G.fz b = none) : Gh.leb m G0 { G with kp := fun c => if c = b then some ob else G.kp c } :=
  ⟨hl.mu, hl.sz, hl.dom, hl.back, hl.fz, fun c x e => (by
    show (if c = b then some ob else G.kp c) = some x
    rw [if_neg (fun hc => by rw [hc, hK] at e; cases e)]
    exact hl.kp c x e), hl.new, hl.os, hl.tape, hl.output⟩
theorem obj_ne {G : Gh} {H : AHeap} {w : World} (h : Inv G H w) {b : Nat} {ob : Obj} (hk : G.kp b = some ob) : ∀ o x, H[o]? = some (some x) → G.sz o ≠ 0 → (G.mu o).1 ≠ b := fun o x e hz heq => by
  obtain ⟨_, cs, k1, k2, k3, k4, k5, k6⟩ := (h.obj o x e).resolve_left fun q => hz q.2
  rw [heq, hk] at k6; cases k6
theorem XRes_makeMap {t : TypeId} {d : Option Tmp} {ty : TypeId} {pos : String} {after : Array Edge} {g : Option (Nat × Bool)} (hw : wantedS fr ⟨d, .makeMap t none, ty, pos, after, g⟩ = some true)
    (h : ∀ b, XRes P m Q (l, ⟨putL fr d (lt (.map (some b))), H, M ++ [(b, 0, fun _ => none)]⟩)) : XRes P m Q (⟨d, .makeMap t none, ty, pos, after, g⟩ :: l, ⟨fr, H, M⟩) := fun n hn G0 G a w hm hl hM hr => by
  unfold wpList
  rw [if_pos (hr.wanted (ops := idB n) (b := true) (by rw [wantedS_ok hn]; exact hw))]
  refine .inl ?_
  have hrun : (execOp a.eval ⟨d, .makeMap t none, ty, pos, after, g⟩).run P w = .ok (.value (.map (some w.heap.size))) (w.alloc (.map #[] 0)) := by
    simp [execOp, Instr.makeMap]
  unfold Oper.wp
  rw [hrun]
  obtain ⟨f1, f2⟩ := hr.inv.fresh
  have hK : G0.kp w.heap.size = none := by
    cases hk : G0.kp w.heap.size with
    | none => rfl
    | some x => have := hl.kp _ _ hk; rw [f2] at this; cases this
  have hobj : ∀ o x, H[o]? = some (some x) → G.sz o ≠ 0 → (G.mu o).1 ≠ w.heap.size := fun o x e hz heq => by
    obtain ⟨_, cs, k1, _⟩ := (hr.inv.obj o x e).resolve_left fun q => hz q.2
    have := lt_of_heap k1; omega
  have hb : (w.alloc (.map #[] 0)).heap[w.heap.size]? = some (.map #[] 0) := by show (w.heap.push _)[w.heap.size]? = _; simp
  have hr' := hr.block_set f1 hobj hb (World.grownBy_alloc w _ _) d (x := lt (.map (some w.heap.size))) (.iv _ _ (.lit _))
  refine h w.heap.size n (by show (putL _ _ _).length ≤ n; rw [putL_len]; exact hn) G0 _ _ _ hm (leb_block hl _ hK f1) ⟨fun e he => ?_, ?_⟩ hr'
  · rcases List.mem_append.1 he with he | he
    · obtain ⟨h1, h2, o, h3, h4⟩ := hM.one e he
      have hne : e.1 ≠ w.heap.size := fun heq => by rw [heq, f2] at h3; cases h3
      exact ⟨h1, h2, o, by show (if e.1 = w.heap.size then _ else _) = _; rw [if_neg hne]; exact h3, h4⟩
    · rw [List.mem_singleton.1 he]
      obtain ⟨o, h1, h2⟩ := (IMap.made w).at
      rw [hb] at h1; cases h1
      exact ⟨hK, f1, _, if_pos rfl, h2⟩
  · show (M ++ [(w.heap.size, 0, fun _ => none)]).Pairwise _
    refine List.pairwise_append.2 ⟨hM.two, List.pairwise_singleton _ _, fun e he e' he' heq => ?_⟩
    rw [List.mem_singleton.1 he'] at heq
    obtain ⟨_, _, o, h3, _⟩ := hM.one e he
    rw [heq, f2] at h3; cases h3
theorem MOK.at {K : Nat → Option Obj} {G : Gh} {w : World} (h : MOK K G M) (hi : Inv G H w) {i b k : Nat} {F : MC} (hM : M[i]? = some (b, k, F)) : K b = none ∧ G.fz b = none ∧ IMap w b k F ∧ ∃ o, G.kp b = some o := by
  obtain ⟨h1, h2, o, h3, h4⟩ := h.one _ (List.mem_iff_getElem?.2 ⟨i, hM⟩)
  exact ⟨h1, h2, h4 w (hi.kp _ _ h3), o, h3⟩
theorem XRes_turn {i b k k' : Nat} {F F' : MC} {v : Value} {x : AV} (hx : ∀ G : Gh, RA H.length G x v) (hM : M[i]? = some (b, k, F)) (hw : wantedS fr o = some true)
    (hrun : ∀ (a : Act) (w : World) G, Rst G ⟨fr, H⟩ a w → IMap w b k F → ∃ w', ((execOp a.eval o).run P w = .ok (.value v) w' ∨ ((execOp a.eval o).run P w = .ok .skip w' ∧ v = undef)) ∧ IMap w' b k' F' ∧ w.grownBy w' (some b))
    (h : XRes P m Q (l, ⟨putL fr o.dst x, H, M.set i (b, k', F')⟩)) : XRes P m Q (o :: l, ⟨fr, H, M⟩) := fun n hn G0 G a w hm hl hMM hr => by
  unfold wpList
  rw [if_pos (hr.wanted (ops := idB n) (o := o) (b := true) (by rw [wantedS_ok hn]; exact hw))]
  refine .inl ?_
  obtain ⟨c1, c2, c3, ob0, c4⟩ := hMM.at hr.inv hM
  obtain ⟨w', r1, r2, r3⟩ := hrun a w G hr c3
  obtain ⟨ob, o1, o2⟩ := r2.at
  have hr' := hr.block_set c2 (obj_ne hr.inv c4) o1 r3 o.dst (hx G)
  have hi : i < M.length := (List.getElem?_eq_some_iff.1 hM).1
  have hfin := h n (by show (putL _ _ _).length ≤ n; rw [putL_len]; exact hn) G0 _ _ w' hm (leb_block hl ob c1 c2) ⟨fun e he => by
    obtain ⟨j, hj⟩ := List.mem_iff_getElem?.1 he
    by_cases hji : i = j
    · subst hji
      rw [List.getElem?_set_self hi] at hj; cases hj
      exact ⟨c1, c2, ob, if_pos rfl, o2⟩
    · rw [List.getElem?_set_ne hji] at hj
      obtain ⟨h1, h2, ob', h3, h4⟩ := hMM.one e (List.mem_iff_getElem?.2 ⟨j, hj⟩)
      have hne : e.1 ≠ b := fun heq => by
        have ht := List.pairwise_iff_getElem.1 hMM.two
        obtain ⟨l1, e1⟩ := List.getElem?_eq_some_iff.1 hM
        obtain ⟨l2, e2⟩ := List.getElem?_eq_some_iff.1 hj
        rcases Nat.lt_or_gt_of_ne hji with h5 | h5
        · have := ht i j l1 l2 h5; rw [e1, e2] at this; exact this heq.symm
        · have := ht j i l2 l1 h5; rw [e1, e2] at this; exact this heq
      exact ⟨h1, h2, ob', by show (if e.1 = b then _ else _) = _; rw [if_neg hne]; exact h3, h4⟩, by
    refine List.pairwise_iff_getElem.2 fun p q hp hq hpq => ?_
    have ht := List.pairwise_iff_getElem.1 hMM.two
    have e1 : ∀ (p : Nat) (hp : p < (M.set i (b, k', F')).length), ((M.set i (b, k', F'))[p]).1 = (M[p]'(by simpa using hp)).1 := fun p hp => by
      rw [List.getElem_set]
      split
      · rename_i hh; subst hh
        obtain ⟨l1, e1⟩ := List.getElem?_eq_some_iff.1 hM
        rw [e1]
      · rfl
    show ((M.set i (b, k', F'))[p]).1 ≠ ((M.set i (b, k', F'))[q]).1
    rw [e1, e1]
    exact ht p q (by simpa using hp) (by simpa using hq) hpq⟩ hr'
  unfold Oper.wp
  rcases r1 with r1 | ⟨r1, rfl⟩
  · rw [r1]; exact hfin
  · rw [r1]; exact hfin
theorem XRes_seen {i b k : Nat} {F : MC} {x : AV} (hM : M[i]? = some (b, k, F)) (hw : wantedS fr o = some true)
    (hrun : ∀ (a : Act) (w : World) G, Rst G ⟨fr, H⟩ a w → IMap w b k F → ∃ v, (execOp a.eval o).run P w = .ok (.value v) w ∧ RA H.length G x v)
    (h : XRes P m Q (l, ⟨putL fr o.dst x, H, M⟩)) : XRes P m Q (o :: l, ⟨fr, H, M⟩) := fun n hn G0 G a w hm hl hMM hr => by
  unfold wpList
  rw [if_pos (hr.wanted (ops := idB n) (o := o) (b := true) (by rw [wantedS_ok hn]; exact hw))]
  refine .inl ?_
  obtain ⟨c1, c2, c3, ob0, c4⟩ := hMM.at hr.inv hM
  obtain ⟨v, r1, r2⟩ := hrun a w G hr c3
  have hfin := h n (by show (putL _ _ _).length ≤ n; rw [putL_len]; exact hn) G0 G _ w hm hl hMM (hr.put (Gh.le.refl _ _) (Nat.le_refl _) hr.inv r2 o.dst)
  unfold Oper.wp
  rw [r1]; exact hfin
end
section
variable {m : Nat} {Q : Exit → XS → Prop} {fr : List AV} {H : AHeap} {M : MS} {l : List Oper} {t e : TypeId} {d : Option Tmp} {ty : TypeId} {pos : String} {after : Array Edge} {g : Option (Nat × Bool)}
theorem ev_lit {fr : List AV} {H : AHeap} {G : Gh} {a : Act} {w : World} (hr : Rst G ⟨fr, H⟩ a w) {x : Operand} {v : Value} (h : AS.ev ⟨fr, H⟩ x = lt v) : a.eval x = v := by
  have := hr.ev x; rw [h] at this; exact this.lit_inv
set_option maxRecDepth 100000 in
theorem XRes_mputA {mo x v : Operand} (hw : wantedS fr ⟨d, .mapUpdate t mo x v, ty, pos, after, g⟩ = some true) (ht : Tryd.prog.underlying t = some (.map 3 e)) {i b n : Nat} {F : MC} (hm : AS.ev ⟨fr, H⟩ mo = lt (.map (some b))) (hM : M[i]? = some (b, n, F))
    {k : Int} (hx : AS.ev ⟨fr, H⟩ x = lt (.int .i64 k)) (k1 : -9223372036854775808 ≤ k ∧ k ≤ 9223372036854775807) {us : List Value} (hv : AS.ev ⟨fr, H⟩ v = .agg (us.map lt)) (hu : (mapR (.agg us.toArray)).isSome = true) (hn : n < maxLen)
    (h : XRes Tryd.prog m Q (l, ⟨putL fr d uD, H, M.set i (b, n + 1, upd F k (.agg us.toArray))⟩)) : XRes Tryd.prog m Q (⟨d, .mapUpdate t mo x v, ty, pos, after, g⟩ :: l, ⟨fr, H, M⟩) :=
  XRes_turn (v := undef) (x := uD) (fun G => .iv _ _ (.lit _)) hM hw (fun a w G hr hown => by
    obtain ⟨w', hrun, h1, h2⟩ := hown.store t e ht hn k1.1 k1.2 hu
    have hve := hr.ev v
    rw [hv] at hve
    have hva : a.eval v = .agg us.toArray := by
      generalize a.eval v = va at hve
      cases hve with
      | agg _ vs h1 h2 h3 =>
        congr 2
        refine List.ext_getElem? fun j => ?_
        rcases Nat.lt_or_ge j vs.length with hj | hj
        · have hj' : j < us.length := by rw [List.length_map] at h1; omega
          have := (h2 j (lt us[j]) vs[j] (by rw [List.getElem?_map, List.getElem?_eq_getElem hj']; rfl) (List.getElem?_eq_getElem hj)).lit_inv
          rw [List.getElem?_eq_getElem hj, List.getElem?_eq_getElem hj', this]
        · rw [List.getElem?_eq_none hj, List.getElem?_eq_none (by rw [List.length_map] at h1; omega)]
    exact ⟨w', .inr ⟨by simp [execOp, ev_lit hr hm, ev_lit hr hx, hva, hrun, Result.andThen], rfl⟩, h1, h2⟩) h
set_option maxRecDepth 100000 in
theorem XRes_mlook {mo x : Operand} {z : Value} (hw : wantedS fr ⟨d, .lookup t mo x true, ty, pos, after, g⟩ = some true) (ht : Tryd.prog.underlying t = some (.map 3 e)) (hz : ∀ w, (zeroValue e).run Tryd.prog w = .ok z w) (hzR : (mapR z).isSome = true) {i b n : Nat} {F : MC} (hm : AS.ev ⟨fr, H⟩ mo = lt (.map (some b))) (hM : M[i]? = some (b, n, F))
    {k : Int} (hx : AS.ev ⟨fr, H⟩ x = lt (.int .i64 k)) (k1 : -9223372036854775808 ≤ k ∧ k ≤ 9223372036854775807)
    (h : XRes Tryd.prog m Q (l, ⟨putL fr d (.tup [lt ((F k).getD z), lt (.bool (F k).isSome)]), H, M⟩)) : XRes Tryd.prog m Q (⟨d, .lookup t mo x true, ty, pos, after, g⟩ :: l, ⟨fr, H, M⟩) :=
  XRes_seen hM hw (fun a w G hr hown => ⟨_, by simp [execOp, ev_lit hr hm, ev_lit hr hx, hown.look ht (hz w) hzR k1.1 k1.2, Result.andThen], .tup [_, _] [_, _] rfl (RL.cons (.iv _ _ (.lit _)) (RL.cons (.iv _ _ (.lit _)) (RL.nil _ _))).2⟩) h
end
end Go.Proofs.YtghdacijcnmhlaaDoor
