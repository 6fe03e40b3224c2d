import Derived.Test.YtdladbfjgkejiaaMgAJ
import Derived.Test.YtdladbfjgkejiaaMgAK
import Derived.Test.YtdladbfjgkejiaaRows
import Derived.Test.YtdladbfjgkejiaaMgAA
import Derived.Maps.OwnSet
import Derived.Maps.OwnOps
import Derived.OwnWalk
namespace Go.Proofs.Ytdladbfjgkejiaa
set_option linter.unusedVariables false

theorem lvar_abs {x : Int} (h : lvar x ≠ 0) : lvar x = if 0 < x then x else -x := by
  have := lvar_range h
  unfold lvar at *
  repeat' split <;> omega
theorem lvar_same {x y : Int} (h : lvar x ≠ 0) (he : lvar x = lvar y) : x = y ∨ x = -y := by
  have h1 := lvar_abs h
  have h2 := lvar_abs (x := y) (by omega)
  split at h1 <;> split at h2 <;> omega
theorem lhas_iff (l : List Int) (x : Int) : lhas l x = true ↔ x ∈ l := by unfold lhas; rw [List.contains_iff_mem]
theorem lhas_app (l t : List Int) (x : Int) : lhas (l ++ t) x = (lhas l x || lhas t x) := by
  unfold lhas; rw [Bool.eq_iff_iff]; simp
theorem aCheck_iff (l : List Int) (vars : Int) : aCheck l vars = 0 ↔ (0 ≤ vars ∧ vars ≤ 100000 ∧ (∀ x ∈ l, lcheck x vars = 0) ∧ (l.map lvar).Nodup) := by
  unfold aCheck
  by_cases h1 : vars < 0 ∨ 100000 < vars
  · rw [if_pos h1]; refine ⟨fun h => by omega, fun h => by omega⟩
  · rw [if_neg h1]
    by_cases h2 : (l.all fun x => lcheck x vars == 0) = false
    · rw [if_pos h2]
      refine ⟨fun h => by omega, fun h => ?_⟩
      rw [List.all_eq_false] at h2
      obtain ⟨x, hx, hb⟩ := h2
      exact absurd (h.2.2.1 x hx) (by simpa using hb)
    · rw [if_neg h2]
      have h3 : ∀ x ∈ l, lcheck x vars = 0 := fun x hx => by
        have h4 : (l.all fun x => lcheck x vars == 0) = true := by simpa using h2
        have := (List.all_eq_true.1 h4) x hx
        simpa using this
      by_cases h4 : aDup l
      · rw [if_pos h4]; exact ⟨fun h => by omega, fun h => absurd h.2.2.2 h4⟩
      · rw [if_neg h4]; exact ⟨fun _ => ⟨by omega, by omega, h3, Classical.not_not.1 h4⟩, fun _ => rfl⟩

/-! ### a unit clause's literal -/
theorem unit_yes {l c : List Int} (h : aUnitOk l c = true) : aCl (l ++ [aUnit l c]) c = 1 := by
  obtain ⟨u, _, e, hm, hv, _⟩ := aUnit_is h
  rw [e, (aCl_iff _ _).1, aN_pos]
  refine ⟨u, hm, (aIs_iff _ _ _).2 ⟨hv, ?_⟩⟩
  unfold aVal
  rw [if_neg hv, if_pos (by rw [lhas_iff]; simp)]
theorem unit_no {l c : List Int} (h : aUnitOk l c = true) : aCl (l ++ [-aUnit l c]) c = -1 := by
  have hu := h
  obtain ⟨u, hf, e, hm, hv, h0⟩ := aUnit_is h
  rw [e]
  have h2 : aN l c 1 = 0 ∧ aN l c 0 = 1 := by unfold aUnitOk at h; exact of_decide_eq_true h
  have hu0 : u ≠ 0 := by have := lvar_range hv; omega
  have key : ∀ x ∈ c, lvar x ≠ 0 → aVal (l ++ [-u]) x = -1 := by
    intro x hx hxv
    have hone : lhas [-u] x = decide (x = -u) := by unfold lhas; rw [Bool.eq_iff_iff]; simp
    have hone2 : lhas [-u] (-x) = decide (x = u) := by unfold lhas; rw [Bool.eq_iff_iff]; simp <;> omega
    rcases aVal_cases l x with ⟨k, _⟩ | ⟨_, ⟨k1, k2⟩ | ⟨k1, k2, k3⟩ | ⟨k1, k2, k3⟩⟩
    · exact absurd k hxv
    · exact absurd ((aN_pos l c 1).2 ⟨x, hx, (aIs_iff _ _ _).2 ⟨hxv, k2⟩⟩) (by omega)
    · have hne : x ≠ -u := fun hh => by
        rw [hh, Int.neg_neg] at k2
        rcases aVal_cases l u with ⟨q, _⟩ | ⟨_, ⟨q1, q2⟩ | ⟨q1, q2, q3⟩ | ⟨q1, q2, q3⟩⟩
        · exact absurd q hv
        · omega
        · omega
        · rw [q1] at k2; cases k2
      unfold aVal
      rw [if_neg hxv, lhas_app, lhas_app, k1, k2, hone]
      simp [hne]
    · have hxu : x = u := by
        have := aUnit_at hu hx hxv k3
        rw [e] at this; exact this.symm
      subst hxu
      unfold aVal
      rw [if_neg hxv, lhas_app, lhas_app, k1, k2, hone, hone2]
      simp; omega
  rw [(aCl_iff _ _).2]
  constructor
  · rcases Nat.eq_zero_or_pos (aN (l ++ [-u]) c 1) with q | q
    · exact q
    · obtain ⟨x, hx, hi⟩ := (aN_pos _ _ _).1 q
      rw [aIs_iff] at hi
      have := key x hx hi.1; omega
  · rcases Nat.eq_zero_or_pos (aN (l ++ [-u]) c 0) with q | q
    · exact q
    · obtain ⟨x, hx, hi⟩ := (aN_pos _ _ _).1 q
      rw [aIs_iff] at hi
      have := key x hx hi.1; omega
theorem unit_check {l c : List Int} {vars : Int} (h : aUnitOk l c = true) (hl : aCheck l vars = 0) (hu : lcheck (aUnit l c) vars = 0) : aCheck (l ++ [aUnit l c]) vars = 0 := by
  obtain ⟨u, hf, e, hm, hv, h0⟩ := aUnit_is h
  rw [e] at hu ⊢
  rw [aCheck_iff] at hl ⊢
  obtain ⟨h1, h2, h3, h4⟩ := hl
  refine ⟨h1, h2, fun x hx => ?_, ?_⟩
  · rcases List.mem_append.1 hx with hx | hx
    · exact h3 x hx
    · rw [List.mem_singleton.1 hx]; exact hu
  · rw [List.map_append, List.nodup_append]
    refine ⟨h4, by simp, fun a ha b hb => ?_⟩
    simp at hb
    subst hb
    obtain ⟨y, hy, rfl⟩ := List.mem_map.1 ha
    intro he
    rcases aVal_cases l u with ⟨q, _⟩ | ⟨_, ⟨q1, q2⟩ | ⟨q1, q2, q3⟩ | ⟨q1, q2, q3⟩⟩
    · exact hv q
    · omega
    · omega
    · rcases lvar_same (x := y) (y := u) (by rw [he]; exact hv) he with k | k
      · rw [k] at hy; rw [(lhas_iff l u).2 hy] at q1; cases q1
      · rw [k] at hy; rw [(lhas_iff l (-u)).2 hy] at q2; cases q2

/-! ### the literals of truths -/
theorem aFrom_len {m : List Bool} (h : m.length ≤ 100000) : (aFrom m).length = m.length := by unfold aFrom; rw [if_neg (by omega)]; simp
theorem aFrom_at {m : List Bool} (h : m.length ≤ 100000) {i : Nat} (hi : i < m.length) : (aFrom m).getD i 0 = if m.getD i false then (i : Int) + 1 else -((i : Int) + 1) := by
  unfold aFrom; rw [if_neg (by omega)]
  simp only [List.getD_eq_getElem?_getD, List.getElem?_map, List.getElem?_range hi, Option.map_some, Option.getD_some]
  unfold lmake; rw [if_neg (by omega)]
theorem aFrom_mem {m : List Bool} (h : m.length ≤ 100000) (x : Int) : x ∈ aFrom m ↔ ∃ i, i < m.length ∧ x = if m.getD i false then (i : Int) + 1 else -((i : Int) + 1) := by
  rw [List.mem_iff_getElem]
  constructor
  · rintro ⟨i, hi, rfl⟩
    have hi2 : i < m.length := by rw [aFrom_len h] at hi; exact hi
    refine ⟨i, hi2, ?_⟩
    rw [← aFrom_at h hi2]
    simp [List.getD, hi]
  · rintro ⟨i, hi, rfl⟩
    have hi2 : i < (aFrom m).length := by rw [aFrom_len h]; exact hi
    refine ⟨i, hi2, ?_⟩
    rw [← aFrom_at h hi]
    simp [List.getD, hi2]
theorem aFrom_has {m : List Bool} (h : m.length ≤ 100000) {x : Int} (hx : lvar x ≠ 0) (hv : lvar x ≤ m.length) : lhas (aFrom m) x = (m.getD ((lvar x).toNat - 1) false == lside x) := by
  have ha := lvar_abs hx
  have hb := lvar_bd x
  have hs : lside x = decide (0 < x) := by unfold lside; simp [hx]
  rw [hs, Bool.eq_iff_iff, lhas_iff, aFrom_mem h, beq_iff_eq]
  constructor
  · rintro ⟨i, hi, e⟩
    cases hb2 : m.getD i false
    · rw [hb2] at e
      simp at e
      have hi3 : (lvar x).toNat - 1 = i := by split at ha <;> omega
      rw [hi3, hb2]
      exact (decide_eq_false (by omega)).symm
    · rw [hb2] at e
      simp at e
      have hi3 : (lvar x).toNat - 1 = i := by split at ha <;> omega
      rw [hi3, hb2]
      exact (decide_eq_true (by omega)).symm
  · intro e
    refine ⟨(lvar x).toNat - 1, by omega, ?_⟩
    rw [e]
    by_cases hp : 0 < x
    · rw [if_pos hp] at ha; rw [decide_eq_true hp]; simp; omega
    · rw [if_neg hp] at ha; rw [decide_eq_false hp]; simp; omega
theorem aFrom_full {m : List Bool} (h : m.length ≤ 100000) : aFull (aFrom m) m.length = true := by
  unfold aFull
  refine decide_eq_true ⟨by rw [aFrom_len h], ?_⟩
  rw [aCheck_iff]
  refine ⟨by omega, by omega, fun x hx => ?_, ?_⟩
  · obtain ⟨i, hi, rfl⟩ := (aFrom_mem h x).1 hx
    rw [lcheck_ok]
    have : lvar (if m.getD i false = true then (i : Int) + 1 else -((i : Int) + 1)) = (i : Int) + 1 := by unfold lvar; repeat' split <;> omega
    rw [this]; omega
  · have e : (aFrom m).map lvar = (List.range m.length).map fun i : Nat => (i : Int) + 1 := by
      unfold aFrom; rw [if_neg (by omega), List.map_map]
      apply List.map_congr_left
      intro i hi
      rw [List.mem_range] at hi
      simp only [Function.comp]
      unfold lmake; rw [if_neg (by omega)]
      unfold lvar; repeat' split <;> omega
    rw [e]
    rw [List.nodup_iff_pairwise_ne, List.pairwise_map]
    exact (List.nodup_iff_pairwise_ne.1 (List.nodup_range (n := m.length))).imp (fun {a b} hab => by omega)
theorem aFrom_model {m : List Bool} (h : m.length ≤ 100000) : aModel (aFrom m) m.length = m := by
  unfold aModel
  rw [if_neg (by omega), Int.toNat_natCast]
  apply List.ext_getElem
  · simp
  · intro i h1 h2
    rw [List.getElem_map, List.getElem_range]
    have hv : lvar ((i : Int) + 1) = (i : Int) + 1 := by unfold lvar; rw [if_pos (by omega)]
    rw [aFrom_has h (by rw [hv]; omega) (by rw [hv]; omega), hv]
    have hs : lside ((i : Int) + 1) = true := by unfold lside; rw [hv]; simp; omega
    rw [hs, show ((i : Int) + 1).toNat - 1 = i by omega]
    simp [List.getD, h2]
theorem aFrom_val {m : List Bool} (h : m.length ≤ 100000) {x : Int} (hx : lcheck x m.length = 0) : lvar x ≠ 0 ∧ aVal (aFrom m) x = if litT m x then 1 else -1 := by
  rw [lcheck_ok] at hx
  obtain ⟨_, _, hv, hb⟩ := hx
  refine ⟨hv, ?_⟩
  have hbd := lvar_bd x
  have h1 := aFrom_has h hv hb
  have h2 := aFrom_has h (x := -x) (by rw [lvar_neg]; exact hv) (by rw [lvar_neg]; exact hb)
  rw [lvar_neg] at h2
  have hs : lside (-x) = !lside x := by
    unfold lside; rw [lvar_neg]
    have := lvar_range hv
    by_cases hp : 0 < x
    · rw [decide_eq_false (by omega), decide_eq_true (by omega)]; rfl
    · rw [decide_eq_true (by omega), decide_eq_false (by omega)]; rfl
  have ht : litT m x = (m.getD ((lvar x).toNat - 1) false == lside x) := by
    unfold litT
    rw [decide_eq_true hv, decide_eq_true hb]; simp
  unfold aVal
  rw [if_neg hv, h1, h2, hs, ht]
  cases m.getD ((lvar x).toNat - 1) false <;> cases lside x <;> simp
theorem aFrom_clause {m : List Bool} (h : m.length ≤ 100000) {c : List Int} (hc : ∀ x ∈ c, lcheck x m.length = 0) : aCl (aFrom m) c = if holdsC m c then 1 else -1 := by
  cases hh : holdsC m c
  · rw [if_neg (by simp), (aCl_iff _ _).2]
    unfold holdsC at hh
    rw [List.any_eq_false] at hh
    constructor
    · rcases Nat.eq_zero_or_pos (aN (aFrom m) c 1) with q | q
      · exact q
      · obtain ⟨x, hx, hi⟩ := (aN_pos _ _ _).1 q
        rw [aIs_iff] at hi
        have := (aFrom_val h (hc x hx)).2
        rw [if_neg (hh x hx)] at this; omega
    · rcases Nat.eq_zero_or_pos (aN (aFrom m) c 0) with q | q
      · exact q
      · obtain ⟨x, hx, hi⟩ := (aN_pos _ _ _).1 q
        rw [aIs_iff] at hi
        have := (aFrom_val h (hc x hx)).2
        split at this <;> omega
  · rw [if_pos rfl, (aCl_iff _ _).1, aN_pos]
    unfold holdsC at hh
    rw [List.any_eq_true] at hh
    obtain ⟨x, hx, ht⟩ := hh
    have := aFrom_val h (hc x hx)
    rw [if_pos ht] at this
    exact ⟨x, hx, (aIs_iff _ _ _).2 this⟩
end Go.Proofs.Ytdladbfjgkejiaa
namespace Go.Proofs.Ytdladbfjgkejiaa
open Go.RowKit
open Go.Maps (Keyed)

/-- How a plain value reads: a number, or a struct of numbers. -/
def litOf : Value → DataW Unit
  | .int k a => .lit (.int k a)
  | _ => .nil
def isNum : Value → Bool
  | .int k a => (Lit.int k a).wf
  | _ => false
def mapR : Value → Option (DataW Unit × List MemPlace)
  | .int k a => if (Lit.int k a).wf = true then some (.lit (.int k a), []) else none
  | .agg cs => if cs.toList.all isNum = true then some (.agg (cs.toList.map litOf), []) else none
  | _ => none
theorem litOf_inj {v v' : Value} (h : isNum v = true) (h' : isNum v' = true) (e : litOf v = litOf v') : v = v' := by
  cases v <;> simp [isNum] at h
  cases v' <;> simp [isNum] at h'
  simp [litOf] at e
  obtain ⟨rfl, rfl⟩ := e; rfl
theorem litOf_list : ∀ {l l' : List Value}, l.all isNum = true → l'.all isNum = true → l.map litOf = l'.map litOf → l = l'
  | [], [], _, _, _ => rfl
  | [], _ :: _, _, _, e => by simp at e
  | _ :: _, [], _, _, e => by simp at e
  | v :: l, v' :: l', h, h', e => by
    simp only [List.all_cons, Bool.and_eq_true] at h h'
    simp only [List.map_cons, List.cons.injEq] at e
    rw [litOf_inj h.1 h'.1 e.1, litOf_list h.2 h'.2 e.2]
theorem mapR_inj {v v' : Value} {d : DataW Unit} {ps ps' : List MemPlace} (h : mapR v = some (d, ps)) (h' : mapR v' = some (d, ps')) : v = v' := by
  unfold mapR at h h'
  cases v <;> simp at h <;> cases v' <;> simp at h'
  · obtain ⟨_, h1, _⟩ := h
    obtain ⟨_, h2, _⟩ := h'
    rw [← h1] at h2; simp at h2; obtain ⟨rfl, rfl⟩ := h2; rfl
  · obtain ⟨_, h1, _⟩ := h
    obtain ⟨_, h2, _⟩ := h'
    rw [← h1] at h2; cases h2
  · obtain ⟨_, h1, _⟩ := h
    obtain ⟨_, h2, _⟩ := h'
    rw [← h1] at h2; cases h2
  · rename_i cs cs'
    obtain ⟨g1, h1, _⟩ := h
    obtain ⟨g2, h2, _⟩ := h'
    rw [← h1] at h2
    simp only [DataW.agg.injEq] at h2
    have := litOf_list (l := cs.toList) (l' := cs'.toList) (by rw [List.all_eq_true]; intro x hx; obtain ⟨i, hi, e⟩ := List.mem_iff_getElem.1 hx; rw [← e]; simpa using g1 i (by simpa using hi)) (by rw [List.all_eq_true]; intro x hx; obtain ⟨i, hi, e⟩ := List.mem_iff_getElem.1 hx; rw [← e]; simpa using g2 i (by simpa using hi)) h2.symm
    rw [Value.agg.injEq]; exact Array.ext' this

theorem wf_int {a : Int} (h1 : -9223372036854775808 ≤ a) (h2 : a ≤ 9223372036854775807) : (Lit.int .i64 a).wf = true := by
  have e1 : IntKind.i64.min = -9223372036854775808 := by decide
  have e2 : IntKind.i64.max = 9223372036854775807 := by decide
  simp [Lit.wf, e1, e2, h1, h2]
theorem law_int : Keyed Try.prog 3 := Maps.int_keyed Try.underlying3
theorem key_int {a : Int} (h1 : -9223372036854775808 ≤ a) (h2 : a ≤ 9223372036854775807) : keyOf Try.prog 3 (.int .i64 a) = some (.int .i64 a) := Maps.keyOf_int_mk Try.underlying3 (wf_int h1 h2)

/-- Block b is a map of at most n entries; F tells what lies at each key; ks are its keys. -/
def IMap (w : World) (b n : Nat) (F : Int → Option Value) : Prop := ∃ D : DataW Unit, w.ownsMap Try.prog 3 mapR b n D ∧
  (∀ k v, F k = some v → ∃ ps, ∀ zd, mapR v = some (D.atKey (.int .i64 k) zd, ps)) ∧ (∀ k, Maps.has D (.int .i64 k) = (F k).isSome) ∧
  ∃ ks : List Int, ks.Nodup ∧ (∀ k, k ∈ ks ↔ (F k).isSome = true) ∧ Maps.size D = ks.length
theorem IMap.lt {w : World} {b n : Nat} {F : Int → Option Value} (h : IMap w b n F) : b < w.heap.size := by
  obtain ⟨D, h1, _⟩ := h; exact h1.lt
theorem IMap.block {w w' : World} {b n : Nat} {F : Int → Option Value} (h : IMap w b n F) (hb : w'.heap[b]? = w.heap[b]?) : IMap w' b n F := by
  obtain ⟨D, ⟨es, clock, h1, h2, h3, h4⟩, r⟩ := h
  exact ⟨D, ⟨es, clock, hb.trans h1, h2, h3, h4⟩, r⟩
theorem IMap.later {w w' : World} {b n : Nat} {F : Int → Option Value} (h : IMap w b n F) (hb : Below w.heap.size w w') : IMap w' b n F := h.block (hb.block b h.lt)
theorem IMap.grown {w w' : World} {b n : Nat} {F : Int → Option Value} {r : Option Nat} (h : IMap w b n F) (hg : w.grownBy w' r) (hr : r ≠ some b) : IMap w' b n F := h.block (hg.block b h.lt (fun e => hr e.symm))
theorem IMap.set {w : World} {b n : Nat} {F : Int → Option Value} (h : IMap w b n F) {a : Addr} (ha : b ≠ a.block) (u : Value) : IMap (w.setCell a u) b n F := h.block (Below.heap_setCell w a u b ha)
theorem IMap.drew {w : World} {b n : Nat} {F : Int → Option Value} (h : IMap w b n F) : IMap w.drew b n F := h
theorem IMap.mono {w : World} {b n m : Nat} {F : Int → Option Value} (h : IMap w b n F) (hn : n ≤ m) : IMap w b m F := by
  obtain ⟨D, h1, r⟩ := h
  exact ⟨D, h1.mono hn, r⟩
theorem IMap.made (w : World) : IMap (w.alloc (.map #[] 0)) w.heap.size 0 (fun _ => none) :=
  ⟨.map [], World.ownsMap_made w _ _ _, (fun k v h => by cases h), fun k => rfl, [], List.nodup_nil, fun k => by simp, rfl⟩

theorem isKey_int {a : Int} (_h1 : -9223372036854775808 ≤ a) (_h2 : a ≤ 9223372036854775807) : WideAt.IsKeyLit (.int .i64 a) := trivial

/-- A map with one key more. -/
def upd (F : Int → Option Value) (k : Int) (v : Value) : Int → Option Value := fun j => if j = k then some v else F j
def del (F : Int → Option Value) (k : Int) : Int → Option Value := fun j => if j = k then none else F j
theorem upd_same (F : Int → Option Value) (k : Int) (v : Value) : upd F k v k = some v := by unfold upd; rw [if_pos rfl]
theorem upd_other (F : Int → Option Value) {j k : Int} (h : j ≠ k) (v : Value) : upd F k v j = F j := by unfold upd; rw [if_neg h]

theorem blk_grown {w w' : World} {b m : Nat} {vs : Array Value} {t : TypeId} (h : Blk w b vs t) (hg : w.grownBy w' (some m)) (hne : b ≠ m) : Blk w' b vs t := (hg.block b h.lt (by simpa using hne)).trans h
theorem bel_grown {w a w' : World} (h : Below w.heap.size w a) {m : Nat} (hg : a.grownBy w' (some m)) (hm : w.heap.size ≤ m) : Below w.heap.size w w' := h.grown hg h.size (fun j hj => by cases hj; exact hm)
/-- 'v, ok := m[k]'. -/
theorem wpList_mlook {w : World} {ops : Array Oper} {rest : List Oper} {o : Oper} {a : Act} {Q : Exit → Act → World → Prop} (hg : o.guard = none) (m x : Operand) (t : TypeId) (hop : o.op = Op.lookup t m x true)
    (e : TypeId) (ht : Try.prog.underlying t = some (.map 3 e)) (z : Value) (hz : (zeroValue e).run Try.prog w = .ok z w) (hzR : (mapR z).isSome = true) (b n : Nat) (F : Int → Option Value) (hm : a.eval m = .map (some b)) (hown : IMap w b n F)
    (k : Int) (hx : a.eval x = .int .i64 k) (k1 : -9223372036854775808 ≤ k) (k2 : k ≤ 9223372036854775807) (v : Value) (c : Bool) (hv : (F k).getD z = v) (hc : (F k).isSome = c)
    (hK : wpList Try.prog ops Q rest (a.put o.dst (.tuple #[v, .bool c])) w) : wpList Try.prog ops Q (o :: rest) a w := by
  obtain ⟨D, hD, hR, hH, _⟩ := hown
  obtain ⟨⟨zd, zp⟩, hzd⟩ := Option.isSome_iff_exists.1 hzR
  refine wpList_lookup_own_ok w hg m x t hop 3 e law_int ht mapR hz zd zp hzd b n D hm hD _ _ hx (key_int k1 k2) (fun v' ps hv' => ?_)
  have e1 : v' = v := by
    rw [← hv]
    cases hF : F k with
    | none =>
      have h2 := hH k
      rw [hF] at h2
      rw [Maps.atKey_of_not_has h2] at hv'
      exact mapR_inj hv' hzd
    | some u =>
      obtain ⟨ps', hu⟩ := hR k u hF
      exact mapR_inj hv' (hu zd)
  rw [e1, hH k, hc]
  exact hK
/-- 'v := m[k]'. -/
theorem wpList_mget {w : World} {ops : Array Oper} {rest : List Oper} {o : Oper} {a : Act} {Q : Exit → Act → World → Prop} (hg : o.guard = none) (m x : Operand) (t : TypeId) (hop : o.op = Op.lookup t m x false)
    (e : TypeId) (ht : Try.prog.underlying t = some (.map 3 e)) (z : Value) (hz : (zeroValue e).run Try.prog w = .ok z w) (hzR : (mapR z).isSome = true) (b n : Nat) (F : Int → Option Value) (hm : a.eval m = .map (some b)) (hown : IMap w b n F)
    (k : Int) (hx : a.eval x = .int .i64 k) (k1 : -9223372036854775808 ≤ k) (k2 : k ≤ 9223372036854775807) (v : Value) (hv : (F k).getD z = v)
    (hK : wpList Try.prog ops Q rest (a.put o.dst v) w) : wpList Try.prog ops Q (o :: rest) a w := by
  obtain ⟨D, hD, hR, hH, _⟩ := hown
  obtain ⟨⟨zd, zp⟩, hzd⟩ := Option.isSome_iff_exists.1 hzR
  obtain ⟨v', ps, hrun, hv'⟩ := hD.lookup law_int ht hz hzd (key_int k1 k2)
  have e1 : v' = v := by
    rw [← hv]
    cases hF : F k with
    | none =>
      have h2 := hH k
      rw [hF] at h2
      rw [Maps.atKey_of_not_has h2] at hv'
      exact mapR_inj hv' hzd
    | some u =>
      obtain ⟨ps', hu⟩ := hR k u hF
      exact mapR_inj hv' (hu zd)
  subst e1
  refine wpList_plain hg fun K' hK' => ?_
  unfold Oper.wp
  simp [execOp, hop, hm, hx, hrun, Result.andThen]
  exact hK' _ _ hK
/-- What 'm[k] = v' does. -/
theorem IMap.store {w : World} {b n : Nat} {F : Int → Option Value} (hown : IMap w b n F) (t : TypeId) (e : TypeId) (ht : Try.prog.underlying t = some (.map 3 e)) (hn : n < maxLen)
    {k : Int} (k1 : -9223372036854775808 ≤ k) (k2 : k ≤ 9223372036854775807) {u : Value} (hu : (mapR u).isSome = true) :
    ∃ w', (Instr.mapUpdate t (.map (some b)) (.int .i64 k) u).run Try.prog w = .ok () w' ∧ IMap w' b (n + 1) (upd F k u) ∧ w.grownBy w' (some b) := by
  obtain ⟨D, hD, hR, hH, ks, hk1, hk2, hk3⟩ := hown
  obtain ⟨⟨d, ps⟩, hud⟩ := Option.isSome_iff_exists.1 hu
  have hT := hD.tidy law_int
  have hM := hD.isMap
  obtain ⟨w', hrun, h1, h2⟩ := hD.update law_int ht hn (key_int k1 k2) hud
  refine ⟨w', hrun, ⟨_, h1, ?_, ?_, ?_⟩, h2⟩
  · intro j y hj
    by_cases hjk : j = k
    · subst hjk
      rw [upd_same] at hj; cases hj
      exact ⟨ps, fun zd => by rw [Maps.atKey_put_same hM (isKey_int k1 k2)]; exact hud⟩
    · rw [upd_other _ hjk] at hj
      obtain ⟨ps', h3⟩ := hR j y hj
      exact ⟨ps', fun zd => by rw [Maps.atKey_put_other (by simpa using hjk)]; exact h3 zd⟩
  · intro j
    by_cases hjk : j = k
    · subst hjk; rw [upd_same, Maps.has_put_same hM (isKey_int k1 k2)]; rfl
    · rw [upd_other _ hjk, Maps.has_put_other (by simpa using hjk)]; exact hH j
  · by_cases hks : k ∈ ks
    · refine ⟨ks, hk1, fun j => ?_, ?_⟩
      · by_cases hjk : j = k
        · subst hjk; simp [upd_same, hks]
        · rw [upd_other _ hjk]; exact hk2 j
      · rw [Maps.size_put hT, hH k, if_pos ((hk2 k).1 hks), hk3]
    · refine ⟨k :: ks, List.nodup_cons.2 ⟨hks, hk1⟩, fun j => ?_, ?_⟩
      · by_cases hjk : j = k
        · subst hjk; simp [upd_same]
        · rw [upd_other _ hjk, List.mem_cons, hk2 j]; simp [hjk]
      · rw [Maps.size_put hT, hH k, if_neg (fun h => hks ((hk2 k).2 h)), hk3]; rfl
/-- 'm[k] = v'. -/
theorem wpList_mput {w : World} {ops : Array Oper} {rest : List Oper} {o : Oper} {a : Act} {Q : Exit → Act → World → Prop} (hg : o.guard = none) (m x v : Operand) (t : TypeId) (hop : o.op = Op.mapUpdate t m x v)
    (e : TypeId) (ht : Try.prog.underlying t = some (.map 3 e)) (b n : Nat) (F : Int → Option Value) (hm : a.eval m = .map (some b)) (hown : IMap w b n F) (hn : n < maxLen)
    (k : Int) (hx : a.eval x = .int .i64 k) (k1 : -9223372036854775808 ≤ k) (k2 : k ≤ 9223372036854775807) (u : Value) (hv : a.eval v = u) (hu : (mapR u).isSome = true)
    (hK : ∀ w', IMap w' b (n + 1) (upd F k u) → w.grownBy w' (some b) → wpList Try.prog ops Q rest (a.put o.dst undef) w') : wpList Try.prog ops Q (o :: rest) a w := by
  obtain ⟨w', hrun, h1, h2⟩ := hown.store t e ht hn k1 k2 hu
  refine wpList_plain hg fun K' hK' => ?_
  unfold Oper.wp
  simp [execOp, hop, hm, hx, hv, hrun, Result.andThen]
  exact hK' _ _ (hK w' h1 h2)
/-- 'm[k] = v' where its order is drawn. -/
theorem upon_mput {w : World} {o : Oper} {a : Act} {K : Act → World → Prop} {Q : Exit → Act → World → Prop} (t : TypeId) (e : TypeId) (ht : Try.prog.underlying t = some (.map 3 e)) (b n : Nat) (F : Int → Option Value) (hown : IMap w b n F) (hn : n < maxLen)
    (k : Int) (k1 : -9223372036854775808 ≤ k) (k2 : k ≤ 9223372036854775807) (u : Value) (hu : (mapR u).isSome = true)
    (hK : ∀ w', IMap w' b (n + 1) (upd F k u) → w.grownBy w' (some b) → K (a.put o.dst undef) w') : Oper.upon Try.prog o a K Q (((Instr.mapUpdate t (.map (some b)) (.int .i64 k) u).run Try.prog w).andThen fun _ w' => Result.ok Next.skip w') := by
  have h := hown.store t e ht hn k1 k2 hu
  revert h
  generalize (Instr.mapUpdate t (.map (some b)) (.int .i64 k) u).run Try.prog w = R
  intro h
  cases h with
  | intro w' h =>
    cases h.1
    exact hK w' h.2.1 h.2.2
/-- 'delete(m, k)'. -/
theorem wpList_mdel {w : World} {ops : Array Oper} {rest : List Oper} {o : Oper} {a : Act} {Q : Exit → Act → World → Prop} (hg : o.guard = none) (m x : Operand) (t : TypeId) (hop : o.op = Op.call { callee := Callee.builtin Builtin.delete, args := #[m, x], argTypes := #[t, 3] })
    (e : TypeId) (ht : Try.prog.underlying t = some (.map 3 e)) (b n : Nat) (F : Int → Option Value) (hm : a.eval m = .map (some b)) (hown : IMap w b n F)
    (k : Int) (hx : a.eval x = .int .i64 k) (k1 : -9223372036854775808 ≤ k) (k2 : k ≤ 9223372036854775807)
    (hK : ∀ w', IMap w' b n (del F k) → w.grownBy w' (some b) → wpList Try.prog ops Q rest (a.put o.dst (.tuple #[])) w') : wpList Try.prog ops Q (o :: rest) a w := by
  obtain ⟨D, hD, hR, hH, ks, hk1, hk2, hk3⟩ := hown
  have hT := hD.tidy law_int
  have hM := hD.isMap
  have dsame : del F k k = none := by unfold del; rw [if_pos rfl]
  have doth : ∀ {j}, j ≠ k → del F k j = F j := fun {j} h => by unfold del; rw [if_neg h]
  refine wpList_delete_own w hg m x t 3 hop e law_int ht mapR b n D hm hD _ _ hx (key_int k1 k2) (fun w' h1 h2 => hK w' ⟨_, h1, ?_, ?_, ?_⟩ h2.grown)
  · intro j y hj
    by_cases hjk : j = k
    · subst hjk; rw [dsame] at hj; cases hj
    · rw [doth hjk] at hj
      obtain ⟨ps', h3⟩ := hR j y hj
      exact ⟨ps', fun zd => by rw [Maps.atKey_del_other (by simpa using hjk)]; exact h3 zd⟩
  · intro j
    by_cases hjk : j = k
    · subst hjk; rw [dsame, Maps.has_del_same]; rfl
    · rw [doth hjk, Maps.has_del_other (by simpa using hjk)]; exact hH j
  · refine ⟨ks.filter (fun j => decide (j ≠ k)), hk1.filter _, fun j => ?_, ?_⟩
    · by_cases hjk : j = k
      · subst hjk; simp [dsame]
      · rw [doth hjk, List.mem_filter, hk2 j]; simp [hjk]
    · have h3 := Maps.size_del (k := .int .i64 k) hT
      rw [hH k, hk3] at h3
      have h4 : ∀ l : List Int, l.Nodup → (l.filter (fun j => decide (j ≠ k))).length + (if k ∈ l then 1 else 0) = l.length := by
        intro l
        induction l with
        | nil => intro _; simp
        | cons x l ih =>
          intro hn
          rw [List.nodup_cons] at hn
          have := ih hn.2
          by_cases hxk : x = k
          · subst hxk
            rw [List.filter_cons_of_neg (by simp)]
            rw [if_neg hn.1] at this
            simp at this ⊢; omega
          · rw [List.filter_cons_of_pos (by simpa using hxk)]
            simp only [List.length_cons, List.mem_cons]
            by_cases hk : k ∈ l
            · rw [if_pos hk] at this; rw [if_pos (Or.inr hk)]; omega
            · rw [if_neg hk] at this; rw [if_neg (by rintro (h | h); exact hxk h.symm; exact hk h)]; omega
      have h5 := h4 ks hk1
      by_cases hk : k ∈ ks
      · rw [if_pos hk] at h5; rw [if_pos ((hk2 k).1 hk)] at h3; omega
      · rw [if_neg hk] at h5; rw [if_neg (fun h => hk ((hk2 k).2 h))] at h3; omega
/-- 'len(m)'. -/
theorem wpList_mlen {w : World} {ops : Array Oper} {rest : List Oper} {o : Oper} {a : Act} {Q : Exit → Act → World → Prop} (hg : o.guard = none) (m : Operand) (t : TypeId) (hop : o.op = Op.call { callee := Callee.builtin Builtin.len, args := #[m], argTypes := #[t] })
    (e : TypeId) (ht : Try.prog.underlying t = some (.map 3 e)) (b n : Nat) (F : Int → Option Value) (hm : a.eval m = .map (some b)) (hown : IMap w b n F)
    (hK : ∀ ks : List Int, ks.Nodup → (∀ k, k ∈ ks ↔ (F k).isSome = true) → wpList Try.prog ops Q rest (a.put o.dst (.int .i64 ks.length)) w) : wpList Try.prog ops Q (o :: rest) a w := by
  obtain ⟨D, hD, hR, hH, ks, hk1, hk2, hk3⟩ := hown
  refine wpList_len_own w hg m t hop 3 e ht mapR b n D hm hD ?_
  rw [hk3]
  exact hK ks hk1 hk2
end Go.Proofs.Ytdladbfjgkejiaa
namespace Go.Proofs.Ytdladbfjgkejiaa
open Go.RowKit
set_option linter.unusedVariables false

theorem set_unit : (mapR (.agg #[])).isSome = true := by decide
theorem set_zero (w : World) : (zeroValue 74).run Try.prog w = .ok (.agg #[]) w := by kernel_rfl
/-- The set of a list's numbers. -/
def sF (l : List Int) : Int → Option Value := fun x => if x ∈ l then some (.agg #[]) else none
theorem sF_nil : sF [] = fun _ => none := by funext x; unfold sF; simp
theorem sF_push (l : List Int) (x : Int) : upd (sF l) x (.agg #[]) = sF (l ++ [x]) := by
  funext y
  unfold upd sF
  by_cases h : y = x
  · rw [if_pos h, if_pos (by simp [h])]
  · rw [if_neg h]
    by_cases h2 : y ∈ l
    · rw [if_pos h2, if_pos (by simp [h2])]
    · rw [if_neg h2, if_neg (by simp [h, h2])]
theorem sF_get (l : List Int) (x : Int) : (sF l x).getD (.agg #[]) = .agg #[] ∧ (sF l x).isSome = l.contains x := by
  unfold sF
  by_cases h : x ∈ l
  · rw [if_pos h]; exact ⟨rfl, by simp [h]⟩
  · rw [if_neg h]; exact ⟨rfl, by simp [h]⟩
/-- How many numbers a set has. -/
theorem set_few {L ks : List Int} (hk : ks.Nodup) (hm : ∀ k, k ∈ ks ↔ (sF L k).isSome = true) : ks.length < L.length ↔ ¬ L.Nodup := by
  have hm2 : ∀ k, k ∈ ks ↔ k ∈ L := fun k => by rw [hm, (sF_get L k).2, List.contains_iff_mem]
  constructor
  · intro h hn
    have := hn.length_le_of_subset (fun x hx => (hm2 x).2 hx)
    omega
  · intro h
    rw [List.nodup_iff_count] at h
    obtain ⟨x, hx⟩ : ∃ x, ¬ List.count x L ≤ 1 := Classical.byContradiction fun hh => h fun a => Classical.byContradiction fun h2 => hh ⟨a, h2⟩
    have hxL : x ∈ L := List.count_pos_iff.1 (by omega)
    have hsub : ∀ y, y ∈ ks → y ∈ L.erase x := fun y hy => by
      by_cases e : y = x
      · subst e
        exact List.count_pos_iff.1 (by rw [List.count_erase_self]; omega)
      · exact (List.mem_erase_of_ne e).2 ((hm2 y).1 hy)
    have h1 := hk.length_le_of_subset hsub
    have h2 := List.length_erase_of_mem hxL
    have h3 := List.length_pos_of_mem hxL
    omega
end Go.Proofs.Ytdladbfjgkejiaa
