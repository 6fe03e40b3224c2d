/- Maps from numbers to plain values: what is known of one, and what its operations do. -/
import Derived.Test.YtcifneenbdibeaaRows
import Derived.Test.YtcifneenbdibeaaOwn
import Derived.Maps.OwnSet
import Derived.Maps.OwnOps
import Derived.OwnWalk
namespace Go.Proofs.Ytcifneenbdibeaa
open Go.RowKit
open Go.Maps (Keyed)

/-- How a plain value reads: a number, or a struct of numbers. -/
def litOf : Value → DataW Unit
  | .int k a => .lit (.int k a)
  | _ => .nil
def isNum : Value → Bool
  | .int k a => (Lit.int k a).wf
  | _ => false
def mapR : Value → Option (DataW Unit × List MemPlace)
  | .int k a => if (Lit.int k a).wf = true then some (.lit (.int k a), []) else none
  | .agg cs => if cs.toList.all isNum = true then some (.agg (cs.toList.map litOf), []) else none
  | _ => none
theorem litOf_inj {v v' : Value} (h : isNum v = true) (h' : isNum v' = true) (e : litOf v = litOf v') : v = v' := by
  cases v <;> simp [isNum] at h
  cases v' <;> simp [isNum] at h'
  simp [litOf] at e
  obtain ⟨rfl, rfl⟩ := e; rfl
theorem litOf_list : ∀ {l l' : List Value}, l.all isNum = true → l'.all isNum = true → l.map litOf = l'.map litOf → l = l'
  | [], [], _, _, _ => rfl
  | [], _ :: _, _, _, e => by simp at e
  | _ :: _, [], _, _, e => by simp at e
  | v :: l, v' :: l', h, h', e => by
    simp only [List.all_cons, Bool.and_eq_true] at h h'
    simp only [List.map_cons, List.cons.injEq] at e
    rw [litOf_inj h.1 h'.1 e.1, litOf_list h.2 h'.2 e.2]
theorem mapR_inj {v v' : Value} {d : DataW Unit} {ps ps' : List MemPlace} (h : mapR v = some (d, ps)) (h' : mapR v' = some (d, ps')) : v = v' := by
  unfold mapR at h h'
  cases v <;> simp at h <;> cases v' <;> simp at h'
  · obtain ⟨_, h1, _⟩ := h
    obtain ⟨_, h2, _⟩ := h'
    rw [← h1] at h2; simp at h2; obtain ⟨rfl, rfl⟩ := h2; rfl
  · obtain ⟨_, h1, _⟩ := h
    obtain ⟨_, h2, _⟩ := h'
    rw [← h1] at h2; cases h2
  · obtain ⟨_, h1, _⟩ := h
    obtain ⟨_, h2, _⟩ := h'
    rw [← h1] at h2; cases h2
  · rename_i cs cs'
    obtain ⟨g1, h1, _⟩ := h
    obtain ⟨g2, h2, _⟩ := h'
    rw [← h1] at h2
    simp only [DataW.agg.injEq] at h2
    have := litOf_list (l := cs.toList) (l' := cs'.toList) (by rw [List.all_eq_true]; intro x hx; obtain ⟨i, hi, e⟩ := List.mem_iff_getElem.1 hx; rw [← e]; simpa using g1 i (by simpa using hi)) (by rw [List.all_eq_true]; intro x hx; obtain ⟨i, hi, e⟩ := List.mem_iff_getElem.1 hx; rw [← e]; simpa using g2 i (by simpa using hi)) h2.symm
    rw [Value.agg.injEq]; exact Array.ext' this

theorem wf_int {a : Int} (h1 : -9223372036854775808 ≤ a) (h2 : a ≤ 9223372036854775807) : (Lit.int .i64 a).wf = true := by
  have e1 : IntKind.i64.min = -9223372036854775808 := by decide
  have e2 : IntKind.i64.max = 9223372036854775807 := by decide
  simp [Lit.wf, e1, e2, h1, h2]
theorem law_int : Keyed Try.prog 3 := Maps.int_keyed Try.underlying3
theorem key_int {a : Int} (h1 : -9223372036854775808 ≤ a) (h2 : a ≤ 9223372036854775807) : keyOf Try.prog 3 (.int .i64 a) = some (.int .i64 a) := Maps.keyOf_int_mk Try.underlying3 (wf_int h1 h2)

/-- Block b is a map of at most n entries; F tells what lies at each key; ks are its keys. -/
def IMap (w : World) (b n : Nat) (F : Int → Option Value) : Prop := ∃ D : DataW Unit, w.ownsMap Try.prog 3 mapR b n D ∧
  (∀ k v, F k = some v → ∃ ps, ∀ zd, mapR v = some (D.atKey (.int .i64 k) zd, ps)) ∧ (∀ k, Maps.has D (.int .i64 k) = (F k).isSome) ∧
  ∃ ks : List Int, ks.Nodup ∧ (∀ k, k ∈ ks ↔ (F k).isSome = true) ∧ Maps.size D = ks.length
theorem IMap.lt {w : World} {b n : Nat} {F : Int → Option Value} (h : IMap w b n F) : b < w.heap.size := by
  obtain ⟨D, h1, _⟩ := h; exact h1.lt
theorem IMap.block {w w' : World} {b n : Nat} {F : Int → Option Value} (h : IMap w b n F) (hb : w'.heap[b]? = w.heap[b]?) : IMap w' b n F := by
  obtain ⟨D, ⟨es, clock, h1, h2, h3, h4⟩, r⟩ := h
  exact ⟨D, ⟨es, clock, hb.trans h1, h2, h3, h4⟩, r⟩
theorem IMap.later {w w' : World} {b n : Nat} {F : Int → Option Value} (h : IMap w b n F) (hb : Below w.heap.size w w') : IMap w' b n F := h.block (hb.block b h.lt)
theorem IMap.grown {w w' : World} {b n : Nat} {F : Int → Option Value} {r : Option Nat} (h : IMap w b n F) (hg : w.grownBy w' r) (hr : r ≠ some b) : IMap w' b n F := h.block (hg.block b h.lt (fun e => hr e.symm))
theorem IMap.set {w : World} {b n : Nat} {F : Int → Option Value} (h : IMap w b n F) {a : Addr} (ha : b ≠ a.block) (u : Value) : IMap (w.setCell a u) b n F := h.block (Below.heap_setCell w a u b ha)
theorem IMap.drew {w : World} {b n : Nat} {F : Int → Option Value} (h : IMap w b n F) : IMap w.drew b n F := h
theorem IMap.mono {w : World} {b n m : Nat} {F : Int → Option Value} (h : IMap w b n F) (hn : n ≤ m) : IMap w b m F := by
  obtain ⟨D, h1, r⟩ := h
  exact ⟨D, h1.mono hn, r⟩
theorem IMap.made (w : World) : IMap (w.alloc (.map #[] 0)) w.heap.size 0 (fun _ => none) :=
  ⟨.map [], World.ownsMap_made w _ _ _, (fun k v h => by cases h), fun k => rfl, [], List.nodup_nil, fun k => by simp, rfl⟩

theorem isKey_int {a : Int} (_h1 : -9223372036854775808 ≤ a) (_h2 : a ≤ 9223372036854775807) : WideAt.IsKeyLit (.int .i64 a) := trivial

/-- A map with one key more. -/
def upd (F : Int → Option Value) (k : Int) (v : Value) : Int → Option Value := fun j => if j = k then some v else F j
def del (F : Int → Option Value) (k : Int) : Int → Option Value := fun j => if j = k then none else F j
theorem upd_same (F : Int → Option Value) (k : Int) (v : Value) : upd F k v k = some v := by unfold upd; rw [if_pos rfl]
theorem upd_other (F : Int → Option Value) {j k : Int} (h : j ≠ k) (v : Value) : upd F k v j = F j := by unfold upd; rw [if_neg h]

theorem blk_grown {w w' : World} {b m : Nat} {vs : Array Value} {t : TypeId} (h : Blk w b vs t) (hg : w.grownBy w' (some m)) (hne : b ≠ m) : Blk w' b vs t := (hg.block b h.lt (by simpa using hne)).trans h
theorem bel_grown {w a w' : World} (h : Below w.heap.size w a) {m : Nat} (hg : a.grownBy w' (some m)) (hm : w.heap.size ≤ m) : Below w.heap.size w w' := h.grown hg h.size (fun j hj => by cases hj; exact hm)
/-- 'v, ok := m[k]'. -/
theorem wpList_mlook {w : World} {ops : Array Oper} {rest : List Oper} {o : Oper} {a : Act} {Q : Exit → Act → World → Prop} (hg : o.guard = none) (m x : Operand) (t : TypeId) (hop : o.op = Op.lookup t m x true)
    (e : TypeId) (ht : Try.prog.underlying t = some (.map 3 e)) (z : Value) (hz : (zeroValue e).run Try.prog w = .ok z w) (hzR : (mapR z).isSome = true) (b n : Nat) (F : Int → Option Value) (hm : a.eval m = .map (some b)) (hown : IMap w b n F)
    (k : Int) (hx : a.eval x = .int .i64 k) (k1 : -9223372036854775808 ≤ k) (k2 : k ≤ 9223372036854775807) (v : Value) (c : Bool) (hv : (F k).getD z = v) (hc : (F k).isSome = c)
    (hK : wpList Try.prog ops Q rest (a.put o.dst (.tuple #[v, .bool c])) w) : wpList Try.prog ops Q (o :: rest) a w := by
  obtain ⟨D, hD, hR, hH, _⟩ := hown
  obtain ⟨⟨zd, zp⟩, hzd⟩ := Option.isSome_iff_exists.1 hzR
  refine wpList_lookup_own_ok w hg m x t hop 3 e law_int ht mapR hz zd zp hzd b n D hm hD _ _ hx (key_int k1 k2) (fun v' ps hv' => ?_)
  have e1 : v' = v := by
    rw [← hv]
    cases hF : F k with
    | none =>
      have h2 := hH k
      rw [hF] at h2
      rw [Maps.atKey_of_not_has h2] at hv'
      exact mapR_inj hv' hzd
    | some u =>
      obtain ⟨ps', hu⟩ := hR k u hF
      exact mapR_inj hv' (hu zd)
  rw [e1, hH k, hc]
  exact hK
/-- 'v := m[k]'. -/
theorem wpList_mget {w : World} {ops : Array Oper} {rest : List Oper} {o : Oper} {a : Act} {Q : Exit → Act → World → Prop} (hg : o.guard = none) (m x : Operand) (t : TypeId) (hop : o.op = Op.lookup t m x false)
    (e : TypeId) (ht : Try.prog.underlying t = some (.map 3 e)) (z : Value) (hz : (zeroValue e).run Try.prog w = .ok z w) (hzR : (mapR z).isSome = true) (b n : Nat) (F : Int → Option Value) (hm : a.eval m = .map (some b)) (hown : IMap w b n F)
    (k : Int) (hx : a.eval x = .int .i64 k) (k1 : -9223372036854775808 ≤ k) (k2 : k ≤ 9223372036854775807) (v : Value) (hv : (F k).getD z = v)
    (hK : wpList Try.prog ops Q rest (a.put o.dst v) w) : wpList Try.prog ops Q (o :: rest) a w := by
  obtain ⟨D, hD, hR, hH, _⟩ := hown
  obtain ⟨⟨zd, zp⟩, hzd⟩ := Option.isSome_iff_exists.1 hzR
  obtain ⟨v', ps, hrun, hv'⟩ := hD.lookup law_int ht hz hzd (key_int k1 k2)
  have e1 : v' = v := by
    rw [← hv]
    cases hF : F k with
    | none =>
      have h2 := hH k
      rw [hF] at h2
      rw [Maps.atKey_of_not_has h2] at hv'
      exact mapR_inj hv' hzd
    | some u =>
      obtain ⟨ps', hu⟩ := hR k u hF
      exact mapR_inj hv' (hu zd)
  subst e1
  refine wpList_plain hg fun K' hK' => ?_
  unfold Oper.wp
  simp [execOp, hop, hm, hx, hrun, Result.andThen]
  exact hK' _ _ hK
/-- What 'm[k] = v' does. -/
theorem IMap.store {w : World} {b n : Nat} {F : Int → Option Value} (hown : IMap w b n F) (t : TypeId) (e : TypeId) (ht : Try.prog.underlying t = some (.map 3 e)) (hn : n < maxLen)
    {k : Int} (k1 : -9223372036854775808 ≤ k) (k2 : k ≤ 9223372036854775807) {u : Value} (hu : (mapR u).isSome = true) :
    ∃ w', (Instr.mapUpdate t (.map (some b)) (.int .i64 k) u).run Try.prog w = .ok () w' ∧ IMap w' b (n + 1) (upd F k u) ∧ w.grownBy w' (some b) := by
  obtain ⟨D, hD, hR, hH, ks, hk1, hk2, hk3⟩ := hown
  obtain ⟨⟨d, ps⟩, hud⟩ := Option.isSome_iff_exists.1 hu
  have hT := hD.tidy law_int
  have hM := hD.isMap
  obtain ⟨w', hrun, h1, h2⟩ := hD.update law_int ht hn (key_int k1 k2) hud
  refine ⟨w', hrun, ⟨_, h1, ?_, ?_, ?_⟩, h2⟩
  · intro j y hj
    by_cases hjk : j = k
    · subst hjk
      rw [upd_same] at hj; cases hj
      exact ⟨ps, fun zd => by rw [Maps.atKey_put_same hM (isKey_int k1 k2)]; exact hud⟩
    · rw [upd_other _ hjk] at hj
      obtain ⟨ps', h3⟩ := hR j y hj
      exact ⟨ps', fun zd => by rw [Maps.atKey_put_other (by simpa using hjk)]; exact h3 zd⟩
  · intro j
    by_cases hjk : j = k
    · subst hjk; rw [upd_same, Maps.has_put_same hM (isKey_int k1 k2)]; rfl
    · rw [upd_other _ hjk, Maps.has_put_other (by simpa using hjk)]; exact hH j
  · by_cases hks : k ∈ ks
    · refine ⟨ks, hk1, fun j => ?_, ?_⟩
      · by_cases hjk : j = k
        · subst hjk; simp [upd_same, hks]
        · rw [upd_other _ hjk]; exact hk2 j
      · rw [Maps.size_put hT, hH k, if_pos ((hk2 k).1 hks), hk3]
    · refine ⟨k :: ks, List.nodup_cons.2 ⟨hks, hk1⟩, fun j => ?_, ?_⟩
      · by_cases hjk : j = k
        · subst hjk; simp [upd_same]
        · rw [upd_other _ hjk, List.mem_cons, hk2 j]; simp [hjk]
      · rw [Maps.size_put hT, hH k, if_neg (fun h => hks ((hk2 k).2 h)), hk3]; rfl
/-- 'm[k] = v'. -/
theorem wpList_mput {w : World} {ops : Array Oper} {rest : List Oper} {o : Oper} {a : Act} {Q : Exit → Act → World → Prop} (hg : o.guard = none) (m x v : Operand) (t : TypeId) (hop : o.op = Op.mapUpdate t m x v)
    (e : TypeId) (ht : Try.prog.underlying t = some (.map 3 e)) (b n : Nat) (F : Int → Option Value) (hm : a.eval m = .map (some b)) (hown : IMap w b n F) (hn : n < maxLen)
    (k : Int) (hx : a.eval x = .int .i64 k) (k1 : -9223372036854775808 ≤ k) (k2 : k ≤ 9223372036854775807) (u : Value) (hv : a.eval v = u) (hu : (mapR u).isSome = true)
    (hK : ∀ w', IMap w' b (n + 1) (upd F k u) → w.grownBy w' (some b) → wpList Try.prog ops Q rest (a.put o.dst undef) w') : wpList Try.prog ops Q (o :: rest) a w := by
  obtain ⟨w', hrun, h1, h2⟩ := hown.store t e ht hn k1 k2 hu
  refine wpList_plain hg fun K' hK' => ?_
  unfold Oper.wp
  simp [execOp, hop, hm, hx, hv, hrun, Result.andThen]
  exact hK' _ _ (hK w' h1 h2)
/-- 'm[k] = v' where its order is drawn. -/
theorem upon_mput {w : World} {o : Oper} {a : Act} {K : Act → World → Prop} {Q : Exit → Act → World → Prop} (t : TypeId) (e : TypeId) (ht : Try.prog.underlying t = some (.map 3 e)) (b n : Nat) (F : Int → Option Value) (hown : IMap w b n F) (hn : n < maxLen)
    (k : Int) (k1 : -9223372036854775808 ≤ k) (k2 : k ≤ 9223372036854775807) (u : Value) (hu : (mapR u).isSome = true)
    (hK : ∀ w', IMap w' b (n + 1) (upd F k u) → w.grownBy w' (some b) → K (a.put o.dst undef) w') : Oper.upon Try.prog o a K Q (((Instr.mapUpdate t (.map (some b)) (.int .i64 k) u).run Try.prog w).andThen fun _ w' => Result.ok Next.skip w') := by
  have h := hown.store t e ht hn k1 k2 hu
  revert h
  generalize (Instr.mapUpdate t (.map (some b)) (.int .i64 k) u).run Try.prog w = R
  intro h
  cases h with
  | intro w' h =>
    cases h.1
    exact hK w' h.2.1 h.2.2
/-- 'delete(m, k)'. -/
theorem wpList_mdel {w : World} {ops : Array Oper} {rest : List Oper} {o : Oper} {a : Act} {Q : Exit → Act → World → Prop} (hg : o.guard = none) (m x : Operand) (t : TypeId) (hop : o.op = Op.call { callee := Callee.builtin Builtin.delete, args := #[m, x], argTypes := #[t, 3] })
    (e : TypeId) (ht : Try.prog.underlying t = some (.map 3 e)) (b n : Nat) (F : Int → Option Value) (hm : a.eval m = .map (some b)) (hown : IMap w b n F)
    (k : Int) (hx : a.eval x = .int .i64 k) (k1 : -9223372036854775808 ≤ k) (k2 : k ≤ 9223372036854775807)
    (hK : ∀ w', IMap w' b n (del F k) → w.grownBy w' (some b) → wpList Try.prog ops Q rest (a.put o.dst (.tuple #[])) w') : wpList Try.prog ops Q (o :: rest) a w := by
  obtain ⟨D, hD, hR, hH, ks, hk1, hk2, hk3⟩ := hown
  have hT := hD.tidy law_int
  have hM := hD.isMap
  have dsame : del F k k = none := by unfold del; rw [if_pos rfl]
  have doth : ∀ {j}, j ≠ k → del F k j = F j := fun {j} h => by unfold del; rw [if_neg h]
  refine wpList_delete_own w hg m x t 3 hop e law_int ht mapR b n D hm hD _ _ hx (key_int k1 k2) (fun w' h1 h2 => hK w' ⟨_, h1, ?_, ?_, ?_⟩ h2.grown)
  · intro j y hj
    by_cases hjk : j = k
    · subst hjk; rw [dsame] at hj; cases hj
    · rw [doth hjk] at hj
      obtain ⟨ps', h3⟩ := hR j y hj
      exact ⟨ps', fun zd => by rw [Maps.atKey_del_other (by simpa using hjk)]; exact h3 zd⟩
  · intro j
    by_cases hjk : j = k
    · subst hjk; rw [dsame, Maps.has_del_same]; rfl
    · rw [doth hjk, Maps.has_del_other (by simpa using hjk)]; exact hH j
  · refine ⟨ks.filter (fun j => decide (j ≠ k)), hk1.filter _, fun j => ?_, ?_⟩
    · by_cases hjk : j = k
      · subst hjk; simp [dsame]
      · rw [doth hjk, List.mem_filter, hk2 j]; simp [hjk]
    · have h3 := Maps.size_del (k := .int .i64 k) hT
      rw [hH k, hk3] at h3
      have h4 : ∀ l : List Int, l.Nodup → (l.filter (fun j => decide (j ≠ k))).length + (if k ∈ l then 1 else 0) = l.length := by
        intro l
        induction l with
        | nil => intro _; simp
        | cons x l ih =>
          intro hn
          rw [List.nodup_cons] at hn
          have := ih hn.2
          by_cases hxk : x = k
          · subst hxk
            rw [List.filter_cons_of_neg (by simp)]
            rw [if_neg hn.1] at this
            simp at this ⊢; omega
          · rw [List.filter_cons_of_pos (by simpa using hxk)]
            simp only [List.length_cons, List.mem_cons]
            by_cases hk : k ∈ l
            · rw [if_pos hk] at this; rw [if_pos (Or.inr hk)]; omega
            · rw [if_neg hk] at this; rw [if_neg (by rintro (h | h); exact hxk h.symm; exact hk h)]; omega
      have h5 := h4 ks hk1
      by_cases hk : k ∈ ks
      · rw [if_pos hk] at h5; rw [if_pos ((hk2 k).1 hk)] at h3; omega
      · rw [if_neg hk] at h5; rw [if_neg (fun h => hk ((hk2 k).2 h))] at h3; omega
/-- 'len(m)'. -/
theorem wpList_mlen {w : World} {ops : Array Oper} {rest : List Oper} {o : Oper} {a : Act} {Q : Exit → Act → World → Prop} (hg : o.guard = none) (m : Operand) (t : TypeId) (hop : o.op = Op.call { callee := Callee.builtin Builtin.len, args := #[m], argTypes := #[t] })
    (e : TypeId) (ht : Try.prog.underlying t = some (.map 3 e)) (b n : Nat) (F : Int → Option Value) (hm : a.eval m = .map (some b)) (hown : IMap w b n F)
    (hK : ∀ ks : List Int, ks.Nodup → (∀ k, k ∈ ks ↔ (F k).isSome = true) → wpList Try.prog ops Q rest (a.put o.dst (.int .i64 ks.length)) w) : wpList Try.prog ops Q (o :: rest) a w := by
  obtain ⟨D, hD, hR, hH, ks, hk1, hk2, hk3⟩ := hown
  refine wpList_len_own w hg m t hop 3 e ht mapR b n D hm hD ?_
  rw [hk3]
  exact hK ks hk1 hk2
end Go.Proofs.Ytcifneenbdibeaa
