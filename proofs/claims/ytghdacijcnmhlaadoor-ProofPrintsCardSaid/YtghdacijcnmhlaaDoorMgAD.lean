import Derived.Test.YtghdacijcnmhlaaDoorMgAC
import Derived.Lib.AppendStr
namespace Go.Proofs.YtghdacijcnmhlaaDoor
open Go.RowKit
set_option linter.unusedVariables false
set_option linter.unusedSimpArgs false
section
variable {P : Program} {tt : TT} {s : AS} {o : Oper}
theorem Inv.virtual {G : Gh} {H : AHeap} {w : World} (h : Inv G H w) (p : Nat × Nat) (t : TypeId) : Inv (G.more H.length p 0) (H ++ [some ⟨t, []⟩]) w := by
  have hle := G.more_le (Nat.le_refl H.length) h.new p 0
  have hs : (G.more H.length p 0).sz H.length = 0 := if_pos rfl
  have hmu : ∀ o, o < H.length → (G.more H.length p 0).mu o = G.mu o := fun o ho => if_neg (by omega)
  have hsz : ∀ o, o < H.length → (G.more H.length p 0).sz o = G.sz o := fun o ho => if_neg (by omega)
  refine ⟨h.os, h.tape, h.output, h.fz, h.kp, fun o ho => ?_, fun o x e => ?_, fun o x e => ?_, fun o o' x x' e e' hne hz hz' => ?_⟩
  · rcases ho with rfl | ho
    · simp
    · have := h.dom o ho; simp; omega
  · by_cases ho : o < H.length
    · rw [List.getElem?_append_left ho] at e; exact .inr (h.live o x e)
    · have : o = H.length := by have := (List.getElem?_eq_some_iff.1 e).1; simp at this; omega
      exact .inl this
  · by_cases ho : o < H.length
    · rw [List.getElem?_append_left ho] at e
      rw [hsz o ho]
      refine (h.obj o x e).imp id fun ⟨k0, cs', k1, k2, k3, k4⟩ => ⟨k0, cs', ?_⟩
      rw [hmu o ho, hsz o ho]
      exact ⟨k1, k2, k3.mono hle (by simp), k4⟩
    · have : o = H.length := by have := (List.getElem?_eq_some_iff.1 e).1; simp at this; omega
      subst this
      simp at e; subst e
      exact .inl ⟨rfl, hs⟩
  · have ho : o < H.length := by
      rcases Nat.lt_or_ge o H.length with h | h
      · exact h
      · have : o = H.length := by have := (List.getElem?_eq_some_iff.1 e).1; simp at this; omega
        rw [this, hs] at hz; exact absurd rfl hz
    have ho' : o' < H.length := by
      rcases Nat.lt_or_ge o' H.length with h | h
      · exact h
      · have : o' = H.length := by have := (List.getElem?_eq_some_iff.1 e').1; simp at this; omega
        rw [this, hs] at hz'; exact absurd rfl hz'
    rw [List.getElem?_append_left ho] at e; rw [List.getElem?_append_left ho'] at e'
    rw [hsz o ho] at hz; rw [hsz o' ho'] at hz'
    rw [hmu o ho, hmu o' ho']
    exact h.inj o o' x x' e e' hne hz hz'
def anews (H : AHeap) (x : AV) : Option (List AV × Nat × Nat) :=
  match x with
  | .osl o off len sz => match H[o]? with
    | some (some obj) => if ((obj.cells.drop off).take (len * sz)).length = len * sz then some ((obj.cells.drop off).take (len * sz), len, sz) else none
    | _ => none
  | .iv (.sl get len sz) => if ((List.range (len * sz)).map (fun j => AV.iv (get j))).all AV.one = true then some ((List.range (len * sz)).map fun j => .iv (get j), len, sz) else none
  | .iv (.lit (.slice none 0 0)) => some ([], 0, 1)
  | _ => none
def NewsAt (w : World) (v : Value) (m : Nat) (news : List Value) : Prop := ∃ A c, v = .slice A m c ∧ (A = none → m = 0) ∧ (∀ a, A = some a → ∀ j u, news[j]? = some u → w.cell? (a.add j) = some u)
theorem anews_ok {H : AHeap} {x : AV} {xs : List AV} {m sz : Nat} (h : anews H x = some (xs, m, sz)) {G : Gh} {w : World} {v : Value} (hi : Inv G H w) (hr : RA H.length G x v) : ∃ news, NewsAt w v m news ∧ RL H.length G xs news ∧ xs.all AV.one = true ∧ xs.length = m * sz := by
  unfold anews at h
  split at h
  · rename_i ob off len sz'
    split at h
    · rename_i obj ho
      split at h
      · rename_i hl
        simp only [Option.some.injEq, Prod.mk.injEq] at h
        obtain ⟨rfl, rfl, rfl⟩ := h
        by_cases hcel : obj.cells = []
        · rw [hcel] at hl ⊢
          simp only [List.drop_nil, List.take_nil, List.length_nil] at hl ⊢
          refine ⟨[], ?_, RL.nil _ _, rfl, hl⟩
          cases hr with
          | onil => exact ⟨none, 0, rfl, fun _ => rfl, fun a h => by cases h⟩
          | osl => exact ⟨_, _, rfl, (fun h => by cases h), fun a _ j u h => by simp at h⟩
        · obtain ⟨hreal, cs, k1, k2, k3, k4, k5, k6⟩ := hi.real ho hcel
          cases hr with
          | onil => exact ⟨[], ⟨none, 0, rfl, fun _ => rfl, fun a h => by cases h⟩, by simp; exact RL.nil _ _, by simp, by simp⟩
          | osl _ _ _ _ b q cap h1 h2 h3 h4 h5 h6 =>
            refine ⟨((((cs.toList.drop (G.mu ob).2).take obj.cells.length).drop off).take (len * sz')), ⟨_, _, rfl, (fun h => by cases h), fun a ha j u e => ?_⟩, (k3.drop off).take _, all_take k4 _ _, hl⟩
            simp only [Option.some.injEq] at ha; subst ha
            have hj : j < len * sz' := by
              rw [List.getElem?_take] at e
              split at e
              · assumption
              · cases e
            have hcap : 0 < cap := by
              rcases Nat.eq_zero_or_pos cap with h | h
              · rw [show len = 0 by omega] at hj; simp at hj
              · exact h
            rw [add_addr, h3 hcap, ← h2, cell_of_heap k1, ← Array.getElem?_toList]
            rw [List.getElem?_take_of_lt hj, List.getElem?_drop, List.getElem?_take] at e
            split at e
            · rw [List.getElem?_drop] at e; rw [← e]; congr 1; omega
            · cases e
      · cases h
    · cases h
  · rename_i get len sz'
    split at h
    · rename_i hall
      simp only [Option.some.injEq, Prod.mk.injEq] at h
      obtain ⟨rfl, rfl, rfl⟩ := h
      cases hr with
      | iv _ _ hv =>
        cases hv with
        | nil _ _ cap _ => exact ⟨[], ⟨none, cap, rfl, fun _ => rfl, fun a h => by cases h⟩, by simp; exact RL.nil _ _, hall, by simp⟩
        | empty => exact ⟨[], ⟨_, _, rfl, (fun h => by cases h), fun a _ j u h => by simp at h⟩, by simp; exact RL.nil _ _, hall, by simp⟩
        | sl _ _ _ b off cap cs t fr vs h1 h2 h3 h4 h5 =>
          refine ⟨(List.range (len * sz')).map vs, ⟨_, _, rfl, (fun h => by cases h), fun a ha j u e => ?_⟩, ⟨by simp, fun i x v e1 e2 => ?_⟩, hall, by simp⟩
          · simp only [Option.some.injEq] at ha; subst ha
            rw [List.getElem?_map] at e
            obtain ⟨q, hq, rfl⟩ := Option.map_eq_some_iff.1 e
            have hj : j < len * sz' := by
              rcases Nat.lt_or_ge j (len * sz') with h | h
              · exact h
              · rw [List.getElem?_eq_none (by simp; omega)] at hq; cases hq
            rw [List.getElem?_range hj] at hq
            simp only [Option.some.injEq] at hq; subst hq
            rw [add_addr, cell_of_heap (hi.fz _ _ h1)]; exact h2 _ hj
          · rw [List.getElem?_map] at e1 e2
            obtain ⟨q, hq, rfl⟩ := Option.map_eq_some_iff.1 e1
            rw [hq] at e2
            simp only [Option.map_some, Option.some.injEq] at e2; subst e2
            exact .iv _ _ (h3 q (List.mem_range.1 (List.mem_iff_getElem?.2 ⟨i, hq⟩)))
    · cases h
  · simp only [Option.some.injEq, Prod.mk.injEq] at h
    obtain ⟨rfl, rfl, rfl⟩ := h
    have := hr.lit_inv; subst this
    exact ⟨[], ⟨none, 0, rfl, fun _ => rfl, fun a h => by cases h⟩, RL.nil _ _, rfl, rfl⟩
  · cases h
theorem firstCells_run {w : World} {v : Value} {m size : Nat} {news : List Value} (h : NewsAt w v m news) (hl : news.length = m * size) : (Builtin.firstCells size m v).run P w = .ok news.toArray w := by
  obtain ⟨A, c, rfl, h1, h2⟩ := h
  cases A with
  | none =>
    obtain rfl := h1 rfl
    have : news = [] := List.length_eq_zero_iff.1 (by simpa using hl)
    subst this
    exact run_firstCells_none w _ _ _ _
  | some a => exact run_firstCells_some w size m a m c news hl (h2 a rfl)
theorem append_place {t ty e : TypeId} {i : TypeInfo} (ht : P.underlying t = some (.slice e)) (hi : P.info? e = some i) {w : World} {v : Value} {m sLen sCap : Nat} {news : List Value} (h : NewsAt w v m news) (hl : news.length = m * i.size) (base : Option Addr) (hroom : sLen + m ≤ sCap) :
    (Builtin.append_ #[t, t] ty #[.slice base sLen sCap, v]).run P w = ((match base with | some a => storeCells (a.add (sLen * i.size)) news | none => pure () : Sem Unit).run P w).andThen fun _ w' => .ok (.slice base (sLen + m) sCap) w' := by
  have hf := firstCells_run (P := P) h hl
  obtain ⟨A, c, rfl, h1, h2⟩ := h
  cases base with
  | none => simp [Builtin.append_, run_underlying ht, sizeOf, typeInfo, hi, Builtin.lenOf, hroom, hf]
  | some a => simp [Builtin.append_, run_underlying ht, sizeOf, typeInfo, hi, Builtin.lenOf, hroom, hf]
def aappend (tt : TT) (H : AHeap) (t : Nat) (sv xv : AV) : Option (AV × AHeap) :=
  match tt t with
  | some ⟨.sl e, _, _, _⟩ => match tt e, anews H xv with
    | some r, some (news, m, szx) => if r.size ≠ 0 ∧ r.zero.length = r.size ∧ news.length = m * r.size then
        (match sv with
        | .iv (.lit (.slice none 0 0)) => if m * r.bytes ≤ 140737488355328 ∧ m ≤ 9223372036854775807 then some (.osl H.length 0 m r.size, H ++ [some ⟨e, news⟩]) else none
        | .osl o off len sz => match H[o]? with
          | some (some obj) => if obj.t = e ∧ sz = r.size ∧ off + len * sz ≤ obj.cells.length ∧ (len + m) * r.bytes ≤ 140737488355328 ∧ len + m ≤ 9223372036854775807 then
              some (.osl H.length 0 (len + m) r.size, H.set o none ++ [some ⟨e, (obj.cells.drop off).take (len * sz) ++ news⟩]) else none
          | _ => none
        | _ => none) else none
    | _, _ => none
  | _ => none
theorem take_append_self {α : Type} (l r : List α) {n : Nat} (h : n = l.length) : (l ++ r).take n = l := by subst h; simp
structure AppRuns (P : Program) (call : Value → Sem Value) (e : TypeId) (i : TypeInfo) (z : Value) (w : World) (m : Nat) (news : List Value) : Prop where
  place : ∀ (base : Option Addr) (sLen sCap : Nat), sLen + m ≤ sCap → (call (.slice base sLen sCap)).run P w = ((match base with | some a => storeCells (a.add (sLen * i.size)) news | none => pure () : Sem Unit).run P w).andThen fun _ w' => .ok (.slice base (sLen + m) sCap) w'
  place0 : m = 0 → (call (.slice none 0 0)).run P w = .ok (.slice none 0 0) w
  nil : 0 < m → (m : Int) ≤ 9223372036854775807 → m * i.bytes ≤ 140737488355328 → (call (.slice none 0 0)).run P w = .ok (.slice (some ⟨w.heap.size, 0, none⟩) m (grownCap w m 0 e)) (w.drew.alloc (.cells (news.toArray ++ Builtin.zeroCells z.cells (grownCap w m 0 e - m)) e))
  grow : 0 < m → ∀ (b : Addr) (sLen sCap : Nat) (olds : List Value), olds.length = sLen * i.size → (∀ j v, olds[j]? = some v → w.cell? (b.add j) = some v) → sCap < sLen + m → ((sLen + m : Nat) : Int) ≤ 9223372036854775807 → (sLen + m) * i.bytes ≤ 140737488355328 →
    (call (.slice (some b) sLen sCap)).run P w = .ok (.slice (some ⟨w.heap.size, 0, none⟩) (sLen + m) (grownCap w (sLen + m) sCap e)) (w.drew.alloc (.cells (olds.toArray ++ news.toArray ++ Builtin.zeroCells z.cells (grownCap w (sLen + m) sCap e - (sLen + m))) e))
theorem NewsAt.runs {t ty e : TypeId} {i : TypeInfo} {z : Value} (ht : P.underlying t = some (.slice e)) (hi : P.info? e = some i) (hz : i.zero = some z) {w : World} {v : Value} {m : Nat} {news : List Value} (h : NewsAt w v m news) (hl : news.length = m * i.size) : AppRuns P (fun sv => Builtin.append_ #[t, t] ty #[sv, v]) e i z w m news := by
  refine ⟨fun base sLen sCap hroom => append_place ht hi h hl base hroom, fun h0 => ?_, fun h0 h63 h48 => ?_, fun h0 b sLen sCap olds h1 h2 h3 h4 h5 => ?_⟩
  · subst h0
    have := append_place (ty := ty) ht hi h hl none (Nat.le_refl (0 + 0))
    exact this
  · obtain ⟨A, c, rfl, k1, k2⟩ := h
    cases A with
    | none => have := k1 rfl; omega
    | some a => exact run_append_nil (P := P) w t ty e i z ht hi hz a m c news hl (k2 a rfl) (by omega) (by omega) (by omega)
  · obtain ⟨A, c, rfl, k1, k2⟩ := h
    cases A with
    | none => have := k1 rfl; omega
    | some a => exact run_append_grow (P := P) w t ty e i z ht hi hz b sLen sCap olds h1 h2 a m c news hl (k2 a rfl) (by omega) (by omega) (growslice_fits (by omega) h5)
theorem zero_runs {t u ty e : TypeId} {i : TypeInfo} {z : Value} {k : IntKind} (ht : P.underlying t = some (.slice e)) (hu : P.underlying u = some (.int k)) (hi : P.info? e = some i) (hz : i.zero = some z) (hs0 : i.size ≠ 0) {w : World} {m : Nat} (hm : m * i.bytes ≤ 140737488355328) (hm2 : m ≤ 9223372036854775807) : AppRuns P (fun sv => Builtin.append_ #[t, u] ty #[sv, .int .i64 (m : Int)]) e i z w m (Builtin.zeroCells z.cells m).toList := by
  have hw : IntKind.i64.wrap (m : Int) = (m : Int) := by rw [IntKind.wrap_i64]; omega
  have hb : ¬ (281474976710656 < (m : Int) * (i.bytes : Int)) := by
    have : ((m * i.bytes : Nat) : Int) ≤ 140737488355328 := by omega
    rw [Int.natCast_mul] at this; omega
  have hpos : ¬ ((m : Int) < 0) := by omega
  have hw0 : IntKind.i64.wrap 0 = 0 := by rw [IntKind.wrap_i64]; rfl
  have hai : ∀ (x : Int) (w : World), (asInt (.int .i64 x)).run P w = .ok x w := fun _ _ => rfl
  refine ⟨fun base sLen sCap hroom => ?_, fun h0 => ?_, fun h0 h63 h48 => ?_, fun h0 b sLen sCap olds h1 h2 h3 h4 h5 => ?_⟩
  · by_cases h0 : m = 0
    · subst h0
      have hroom : sLen ≤ sCap := hroom
      cases base with
      | none => simp [Builtin.append_, run_underlying ht, run_underlying hu, sizeOf, typeInfo, zeroValue, hi, hz, hai, hw0, hw, hpos, hroom]
      | some a => simp [Builtin.append_, run_underlying ht, run_underlying hu, sizeOf, typeInfo, zeroValue, hi, hz, hai, hw0, hw, hpos, hroom, Builtin.zeroCells]
    · have hms : ¬ (m * i.size = 0) := Nat.mul_ne_zero h0 hs0
      cases base with
      | none => simp [Builtin.append_, run_underlying ht, run_underlying hu, sizeOf, typeInfo, zeroValue, hi, hz, hai, hw0, hw, hpos, hroom, hb, hs0, h0, hms]
      | some a => simp [Builtin.append_, run_underlying ht, run_underlying hu, sizeOf, typeInfo, zeroValue, hi, hz, hai, hw0, hw, hpos, hroom, hb, hs0, h0, hms]
  · subst h0
    simp [Builtin.append_, run_underlying ht, run_underlying hu, sizeOf, typeInfo, zeroValue, hi, hz, hai, hw0, hw, hpos]
  · have hn : m ≠ 0 := by omega
    have hms : ¬ (m * i.size = 0) := Nat.mul_ne_zero hn hs0
    have h63' : ¬ (9223372036854775807 < (m : Int)) := by omega
    have h48' : ¬ (281474976710656 < Builtin.nextslicecap m 0 * i.bytes) := by rw [nextslicecap_zero h0]; omega
    simp [Builtin.append_, run_underlying ht, run_underlying hu, sizeOf, typeInfo, zeroValue, hi, hz, hai, hw0, hw, hpos, hb, hn, hs0, hms, h63', h48', Question.forced, run_firstCells_none, newRow, grownCap]
  · have hn : ¬ (sLen + m ≤ sCap) := by omega
    have hm0 : m ≠ 0 := by omega
    have hms : ¬ (m * i.size = 0) := Nat.mul_ne_zero hm0 hs0
    have h63' : ¬ (9223372036854775807 < ((sLen : Int) + (m : Int))) := by omega
    have h48' : ¬ (281474976710656 < Builtin.nextslicecap (sLen + m) sCap * i.bytes) := by have := growslice_fits h3 h5; omega
    have hfo := run_firstCells_some (P := P) w.drew i.size sLen b sLen sCap olds h1 (by simpa using h2)
    simp [Builtin.append_, run_underlying ht, run_underlying hu, sizeOf, typeInfo, zeroValue, hi, hz, hai, hw0, hw, hpos, hb, hn, hm0, hs0, hms, h63', h48', Question.forced, hfo, newRow, grownCap]
theorem append_nil_ok {call : Value → Sem Value} {e : TypeId} {i : TypeInfo} {z : Value} (hs0 : i.size ≠ 0) (hzs : z.cells.size = i.size) {G : Gh} {H : AHeap} {w : World} {m : Nat} {xs : List AV} {news : List Value} (hI : Inv G H w) (h : AppRuns P call e i z w m news) (hx : RL H.length G xs news) (h1 : xs.all AV.one = true) (hl : news.length = m * i.size) (hb : m * i.bytes ≤ 140737488355328) (hm : m ≤ 9223372036854775807) :
    ∃ G' v' w', (call (.slice none 0 0)).run P w = .ok v' w' ∧ Gh.le H.length G G' ∧ Inv G' (H ++ [some ⟨e, xs⟩]) w' ∧ RA (H.length + 1) G' (.osl H.length 0 m i.size) v' := by
  by_cases h0 : m = 0
  · subst h0
    have : news = [] := List.length_eq_zero_iff.1 (by simpa using hl)
    subst this
    have : xs = [] := List.length_eq_zero_iff.1 hx.1
    subst this
    refine ⟨_, _, w, h.place0 rfl, G.more_le (Nat.le_refl _) hI.new (0, 0) 0, hI.virtual (0, 0) e, .onil _ _ _ (.inl rfl)⟩
  · · · have hrun := h.nil (by omega) (by omega) hb
        have hcap := grownCap_ge w m 0 e
        have hcap2 := grownCap_le_maxLen w m 0 e (by unfold maxLen; omega)
        have hsz : (news.toArray ++ Builtin.zeroCells z.cells (grownCap w m 0 e - m)).size = grownCap w m 0 e * i.size := by
          rw [Array.size_append, size_zeroCells, hzs, List.size_toArray, hl, ← Nat.add_mul]; congr 1; omega
        refine ⟨_, _, _, hrun, G.more_le (Nat.le_refl _) hI.new _ _, hI.drew.alloc e xs _ ?_ h1, .osl _ _ _ _ _ _ _ (.inl rfl) (by simp [Gh.more]) (fun _ => by simp [Gh.more]) (by omega) hcap2 (fun _ => by simp only [Gh.more, if_true]; rw [hsz]; omega)⟩
        rw [Array.toList_append, take_append_self _ _ (by simpa using hx.1)]
        exact hx
theorem list_append (l vs R : List Value) (base k : Nat) (h : base + k ≤ l.length) : ((l.take (base + k) ++ vs ++ R).drop base).take (k + vs.length) = (l.drop base).take k ++ vs := by
  apply List.ext_getElem?
  intro i
  simp only [List.getElem?_take, List.getElem?_drop, List.getElem?_append, List.length_append, List.length_take, List.length_drop, List.append_assoc]
  grind
theorem all_append {xs ys : List AV} (h : xs.all AV.one = true) (k : ys.all AV.one = true) : (xs ++ ys).all AV.one = true := by rw [List.all_append, h, k]; rfl
theorem append_own_ok {call : Value → Sem Value} {e : TypeId} {i : TypeInfo} {z : Value} (hs0 : i.size ≠ 0) (hzs : z.cells.size = i.size) {G : Gh} {H : AHeap} {w : World} {sv : Value} {m ob off len : Nat} {xs : List AV} {news : List Value} {obj : AObj}
    (hI : Inv G H w) (h : AppRuns P call e i z w m news) (hx : RL H.length G xs news) (h1 : xs.all AV.one = true) (hl : news.length = m * i.size) (ho : H[ob]? = some (some obj)) (he : obj.t = e) (hr : RA H.length G (.osl ob off len i.size) sv) (hold : off + len * i.size ≤ obj.cells.length) (hb : (len + m) * i.bytes ≤ 140737488355328) (hm : len + m ≤ 9223372036854775807) :
    ∃ G' v' w', (call sv).run P w = .ok v' w' ∧ Gh.le H.length G G' ∧ Inv G' (H.set ob none ++ [some ⟨e, (obj.cells.drop off).take (len * i.size) ++ xs⟩]) w' ∧ RA (H.length + 1) G' (.osl H.length 0 (len + m) i.size) v' := by
  have hlen : (H.set ob none).length = H.length := List.length_set
  subst he
  have hold2 : ((obj.cells.drop off).take (len * i.size)).length = len * i.size := by rw [List.length_take, List.length_drop]; omega
  have hone : ((obj.cells.drop off).take (len * i.size)).all AV.one = true := by
    by_cases hcel : obj.cells = []
    · rw [hcel]; simp
    · exact all_take (hI.real ho hcel).2.choose_spec.2.2.2.1 _ _
  have hIf := hI.forget ob
  have hrr := hr
  cases hr with
  | onil _ _ _ h2 =>
    obtain ⟨G', v', w', a1, a2, a3, a4⟩ := append_nil_ok hs0 hzs hIf h (by rw [hlen]; exact hx) h1 hl (by rw [Nat.zero_add] at hb; exact hb) (by omega)
    rw [hlen] at a2 a4
    exact ⟨G', v', w', a1, a2, by simpa using a3, by rw [Nat.zero_add]; exact a4⟩
  | osl _ _ _ _ b q cap h2 h3 h4 h5 h6 h7 =>
    by_cases hroom : len + m ≤ cap
    · by_cases hm0 : m = 0
      · subst hm0
        have : news = [] := List.length_eq_zero_iff.1 (by simpa using hl)
        subst this
        have : xs = [] := List.length_eq_zero_iff.1 hx.1
        subst this
        have hrun := h.place (some ⟨b, q, none⟩) len cap hroom
        simp only [storeCells, Sem.run_pure, Result.andThen_ok] at hrun
        by_cases hsz : G.sz ob = 0
        · have hc0 : cap = 0 := by
            rcases Nat.eq_zero_or_pos cap with h | h
            · exact h
            · have := h7 h; rw [hsz] at this
              have := Nat.mul_pos h (Nat.pos_of_ne_zero hs0); omega
          have hcel : obj.cells = [] := by
            rcases hI.obj ob obj ho with h | h
            · exact h.1
            · exact absurd hsz h.1
          have hv := hIf.virtual (b, 0) obj.t
          rw [hlen] at hv
          refine ⟨_, _, w, hrun, G.more_le (Nat.le_refl _) hI.new (b, 0) 0, by rw [hcel]; simpa using hv, .osl _ _ _ _ _ _ _ (.inl rfl) (by simp [Gh.more]) (fun h => by omega) hroom h6 (fun h => by omega)⟩
        · obtain ⟨_, cs, k1, k2, k3, k4, k5, k6⟩ := (hI.obj ob obj ho).resolve_left fun q => hsz q.2
          have hrn := hI.rename ho hsz off ((obj.cells.drop off).take (len * i.size)) (fun cs' e1 => by
            rw [k1] at e1; simp only [Option.some.injEq, Obj.cells.injEq] at e1
            obtain ⟨rfl, _⟩ := e1
            have := (k3.drop off).take (len * i.size)
            rw [hold2]
            rw [List.drop_take, List.drop_drop, List.take_take, Nat.min_eq_left (by omega)] at this
            exact this) hone
          refine ⟨_, _, w, hrun, G.more_le (Nat.le_refl _) hI.new _ _, by simpa using hrn, .osl _ _ _ _ _ _ _ (.inl rfl) (by simp [Gh.more, h3]) (fun h => by simp [Gh.more, h4 h]) hroom h6 (fun h => by simp [Gh.more]; exact h7 h)⟩
      · have hcp : 0 < cap := by omega
        have hq := h4 hcp
        have h7' := h7 hcp
        have hmul : (len + m) * i.size ≤ cap * i.size := Nat.mul_le_mul_right _ hroom
        rw [Nat.add_mul] at hmul
        have hsz : G.sz ob ≠ 0 := by
          have := Nat.mul_pos hcp (Nat.pos_of_ne_zero hs0); omega
        obtain ⟨_, cs, k1, k2, k3, k4, k5, k6⟩ := (hI.obj ob obj ho).resolve_left fun q => hsz q.2
        rw [h3] at k1
        have hst := run_storeCells_at P b (q + len * i.size) obj.t news 0 cs w k1 (by rw [hl]; omega) (hx.oneCells h1)
        simp only [Nat.add_zero] at hst
        have hrun := h.place (some ⟨b, q, none⟩) len cap hroom
        simp only [add_addr, hst, Result.andThen_ok] at hrun
        have hcslen : (G.mu ob).2 + (off + len * i.size) ≤ cs.toList.length := by rw [Array.length_toList, k2]; omega
        have hrow := hI.row ho hsz (obj.cells.take (off + len * i.size) ++ xs) (cs.toList.take (q + len * i.size) ++ news ++ cs.toList.drop (q + len * i.size + news.length)).toArray (by
          rw [← k2]
          simp only [List.size_toArray, List.length_append, List.length_take, List.length_drop, Array.length_toList]
          rw [hl]; rw [← k2] at h7'; omega) (by
          have e1 : (obj.cells.take (off + len * i.size) ++ xs).length = (off + len * i.size) + news.length := by rw [List.length_append, List.length_take, hx.1, Nat.min_eq_left hold]
          have hLA := list_append cs.toList news (cs.toList.drop (q + len * i.size + news.length)) (G.mu ob).2 (off + len * i.size) hcslen
          rw [e1]
          rw [show (G.mu ob).2 + (off + len * i.size) = q + len * i.size by omega] at hLA
          show RL _ _ _ (List.take _ (List.drop _ (cs.toList.take (q + len * i.size) ++ news ++ cs.toList.drop (q + len * i.size + news.length))))
          rw [hLA]
          refine RL.append ?_ hx
          have := k3.take (off + len * i.size)
          rw [List.take_take, Nat.min_eq_left hold] at this
          exact this) (all_append (by have := all_take k4 0 (off + len * i.size); simpa using this) h1)
        rw [h3] at hrow
        have holt := (List.getElem?_eq_some_iff.1 ho).1
        have ho' : (H.set ob (some ⟨obj.t, obj.cells.take (off + len * i.size) ++ xs⟩))[ob]? = some (some ⟨obj.t, obj.cells.take (off + len * i.size) ++ xs⟩) := List.getElem?_set_self holt
        have hcells : (obj.cells.take (off + len * i.size) ++ xs).drop off = (obj.cells.drop off).take (len * i.size) ++ xs := by
          rw [List.drop_append, List.drop_take]
          have : off - (obj.cells.take (off + len * i.size)).length = 0 := by rw [List.length_take]; omega
          rw [this]; simp
        have hrn := hrow.rename ho' hsz off ((obj.cells.drop off).take (len * i.size) ++ xs) (fun cs' e1 => by
          obtain ⟨_, cs2, m1, m2, m3, _⟩ := (hrow.obj ob _ ho').resolve_left fun q => hsz q.2
          rw [m1] at e1; simp only [Option.some.injEq, Obj.cells.injEq] at e1
          obtain ⟨rfl, _⟩ := e1
          have := m3.drop off
          dsimp only at this
          rw [hcells, List.drop_take, List.drop_drop] at this
          have e2 : ((obj.cells.drop off).take (len * i.size) ++ xs).length = (obj.cells.take (off + len * i.size) ++ xs).length - off := by rw [← hcells, List.length_drop]
          rw [e2]
          exact this) (all_append hone h1)
        simp only [List.length_set, List.set_set] at hrn
        refine ⟨_, _, _, hrun, G.more_le (Nat.le_refl _) hI.new _ _, hrn, .osl _ _ _ _ _ _ _ (.inl rfl) (by simp [Gh.more, h3]) (fun h => by simp [Gh.more, hq]) hroom h6 (fun h => by simp [Gh.more]; exact h7')⟩
    · have hm0 : m ≠ 0 := by omega
      · skip
        obtain ⟨olds, ⟨A', c', e1, d1, d2⟩, hro, _, hol⟩ := anews_ok (H := H) (x := .osl ob off len i.size) (xs := (obj.cells.drop off).take (len * i.size)) (m := len) (sz := i.size) (by simp only [anews, ho]; rw [if_pos hold2]) hI hrr
        simp only [Value.slice.injEq] at e1
        obtain ⟨e1, _, e3⟩ := e1
        subst e1 e3
        have hrun := h.grow (by omega) ⟨b, q, none⟩ len cap olds (by rw [← hro.1]; exact hol) (d2 _ rfl) (by omega) (by omega) hb
        have hcap := grownCap_ge w (len + m) cap obj.t
        have hcap2 := grownCap_le_maxLen w (len + m) cap obj.t (by unfold maxLen; omega)
        have hszs : (olds.toArray ++ news.toArray ++ Builtin.zeroCells z.cells (grownCap w (len + m) cap obj.t - (len + m))).size = grownCap w (len + m) cap obj.t * i.size := by
          rw [Array.size_append, Array.size_append, size_zeroCells, hzs, List.size_toArray, List.size_toArray, hl, ← hro.1, hol, ← Nat.add_mul, ← Nat.add_mul]; congr 1; omega
        have hal := hIf.drew.alloc obj.t ((obj.cells.drop off).take (len * i.size) ++ xs) (olds.toArray ++ news.toArray ++ Builtin.zeroCells z.cells (grownCap w (len + m) cap obj.t - (len + m))) (by
          rw [hlen]
          rw [Array.toList_append, Array.toList_append, take_append_self _ _ (by simp [hx.1, hro.1])]
          exact RL.append hro hx) (all_append hone h1)
        rw [hlen] at hal
        refine ⟨_, _, _, hrun, G.more_le (Nat.le_refl _) hI.new _ _, hal, .osl _ _ _ _ _ _ _ (.inl rfl) (by simp [Gh.more]) (fun _ => by simp [Gh.more]) (by omega) hcap2 (fun _ => by simp only [Gh.more, if_true]; rw [hszs]; omega)⟩
theorem append_gives (hT : TyOK P tt) {t : TypeId} {x y : Operand} {z : AV} {H' : AHeap} (ho : o.op = .call { callee := .builtin .append, args := #[x, y], argTypes := #[t, t] }) (h : aappend tt s.H t (s.ev x) (s.ev y) = some (z, H')) : Gives1 P s o z H' := by
  unfold aappend at h
  split at h
  · rename_i e _ _ _ ht
    obtain ⟨ii, d, z0, hi1, hd, hz, e1⟩ := hT.row ht
    simp only [TyRow.mk.injEq] at e1
    have hd' := kind_sl e1.1.symm; subst hd'
    split at h
    · rename_i r news m szx hr' hn
      obtain ⟨i', d', z', hi', hd', hz', rfl⟩ := hT.row hr'
      split at h
      · rename_i hc
        obtain ⟨c1, c2, c3⟩ := hc
        have c1 : i'.size ≠ 0 := c1
        have c2 : z'.cells.size = i'.size := by simpa using c2
        have c3 : news.length = m * i'.size := c3
        split at h
        · rename_i hx
          split at h
          · rename_i hb
            simp only [Option.some.injEq, Prod.mk.injEq] at h
            obtain ⟨rfl, rfl⟩ := h
            intro G a w hr
            obtain ⟨ns, q1, q2, q3, q4⟩ := anews_ok hn hr.inv (hr.ev y)
            have hx' := hr.ev x; rw [hx] at hx'; have e2 := hx'.lit_inv
            obtain ⟨G', v', w', a1, a2, a3, a4⟩ := append_nil_ok c1 c2 hr.inv (q1.runs (ty := o.type) hd hi' hz' (by rw [← q2.1]; exact c3)) q2 q3 (by rw [← q2.1]; exact c3) hb.1 hb.2
            exact ⟨G', v', w', .inl (by simp [execOp, ho, resolve, invoke, builtin, e2, a1]), a2, by simp, a3, by simpa using a4⟩
          · cases h
        · rename_i ob off len sz hx
          split at h
          · rename_i obj hob
            split at h
            · rename_i hc
              obtain ⟨b1, b2, b3, b4, b5⟩ := hc
              have b2 : sz = i'.size := b2
              subst b2
              simp only [Option.some.injEq, Prod.mk.injEq] at h
              obtain ⟨rfl, rfl⟩ := h
              intro G a w hr
              obtain ⟨ns, q1, q2, q3, q4⟩ := anews_ok hn hr.inv (hr.ev y)
              have hx' := hr.ev x; rw [hx] at hx'
              obtain ⟨G', v', w', a1, a2, a3, a4⟩ := append_own_ok c1 c2 hr.inv (q1.runs (ty := o.type) hd hi' hz' (by rw [← q2.1]; exact c3)) q2 q3 (by rw [← q2.1]; exact c3) hob b1 hx' b3 b4 b5
              exact ⟨G', v', w', .inl (by simp [execOp, ho, resolve, invoke, builtin, a1]), a2, by simp, a3, by simpa using a4⟩
            · cases h
          · cases h
        · cases h
      · cases h
    · cases h
  · cases h
def aappendZ (tt : TT) (H : AHeap) (t u : Nat) (sv xv : AV) : Option (AV × AHeap) :=
  match tt t, tt u with
  | some ⟨.sl e, _, _, _⟩, some ⟨.int _, _, _, _⟩ => match tt e, xv with
    | some ⟨_, sz, bytes, [z]⟩, .iv (.lit (.int .i64 n)) => if sz = 1 ∧ 0 ≤ n ∧ n ≤ 1000000000 ∧ bytes ≤ 64 ∧ (lt z).one = true then
        (match sv with
        | .iv (.lit (.slice none 0 0)) => some (.osl H.length 0 n.toNat 1, H ++ [some ⟨e, List.replicate n.toNat (lt z)⟩])
        | .osl o off len sz2 => match H[o]? with
          | some (some obj) => if obj.t = e ∧ sz2 = 1 ∧ off + len * sz2 ≤ obj.cells.length ∧ len ≤ 1000000000 then
              some (.osl H.length 0 (len + n.toNat) 1, H.set o none ++ [some ⟨e, (obj.cells.drop off).take (len * sz2) ++ List.replicate n.toNat (lt z)⟩]) else none
          | _ => none
        | _ => none) else none
    | _, _ => none
  | _, _ => none
theorem zero_list {z : Value} {v : Value} (h : z.cells.toList = [v]) (n : Nat) : (Builtin.zeroCells z.cells n).toList = List.replicate n v := by
  apply List.ext_getElem?
  intro j
  have hs := size_zeroCells z.cells n
  have hz : z.cells.size = 1 := by rw [← Array.length_toList, h]; rfl
  by_cases hj : j < n
  · rw [List.getElem?_replicate, if_pos hj]
    unfold Builtin.zeroCells
    rw [hz, Nat.mul_one, Array.toList_map, List.getElem?_map, Array.toList_range, List.getElem?_range hj]
    simp only [Option.map_some, Nat.mod_one]
    rw [Array.getElem!_eq_getD, Array.getD_eq_getD_getElem?, ← Array.getElem?_toList, h]; rfl
  · rw [List.getElem?_eq_none (by rw [Array.length_toList, hs, hz]; omega), List.getElem?_eq_none (by simp; omega)]
theorem appendZ_gives (hT : TyOK P tt) {t u : TypeId} {x y : Operand} {z : AV} {H' : AHeap} (ho : o.op = .call { callee := .builtin .append, args := #[x, y], argTypes := #[t, u] }) (h : aappendZ tt s.H t u (s.ev x) (s.ev y) = some (z, H')) : Gives1 P s o z H' := by
  unfold aappendZ at h
  split at h
  · rename_i e _ _ _ k _ _ _ ht hu
    obtain ⟨ii, d, z0, hi1, hd, hz, e1⟩ := hT.row ht
    simp only [TyRow.mk.injEq] at e1
    have hd' := kind_sl e1.1.symm; subst hd'
    obtain ⟨ii2, d2, z2, hi2, hd2, hz2, e2⟩ := hT.row hu
    simp only [TyRow.mk.injEq] at e2
    have hd2' := kind_int e2.1.symm; subst hd2'
    split at h
    · rename_i kd sz bytes zv n hr' hy
      obtain ⟨i', d', z', hi', hd', hz', e3⟩ := hT.row hr'
      simp only [TyRow.mk.injEq] at e3
      obtain ⟨_, e4, e5, e6⟩ := e3
      split at h
      · rename_i hc
        obtain ⟨c1, c2, c3, c4, c5⟩ := hc
        have c1' : i'.size = 1 := by omega
        have s0 : i'.size ≠ 0 := by omega
        have sz' : z'.cells.size = i'.size := by rw [c1', ← Array.length_toList, ← e6]; rfl
        have hb : n.toNat * i'.bytes ≤ 64000000000 := by
          have : n.toNat * i'.bytes ≤ 1000000000 * 64 := Nat.mul_le_mul (by omega) (by omega)
          omega
        have hzl := zero_list e6.symm n.toNat
        have hn : (n.toNat : Int) = n := by omega
        have hrl : ∀ {m : Nat} {G : Gh}, RL m G (List.replicate n.toNat (lt zv)) (Builtin.zeroCells z'.cells n.toNat).toList := fun {m G} => by
          rw [hzl]
          refine ⟨by simp, fun i x v h1 h2 => ?_⟩
          rw [List.getElem?_replicate] at h1 h2
          split at h1
          · rw [if_pos (by assumption)] at h2
            simp only [Option.some.injEq] at h1 h2
            subst h1 h2; exact .iv _ _ (.lit _)
          · cases h1
        have hone : (List.replicate n.toNat (lt zv)).all AV.one = true := by rw [List.all_eq_true]; intro x hx; rw [(List.mem_replicate.1 hx).2]; exact c5
        have hlen : (Builtin.zeroCells z'.cells n.toNat).toList.length = n.toNat * i'.size := by rw [hzl, c1']; simp
        split at h
        · rename_i hx
          simp only [Option.some.injEq, Prod.mk.injEq] at h
          obtain ⟨rfl, rfl⟩ := h
          intro G a w hr
          have hx' := hr.ev x; rw [hx] at hx'; have e2 := hx'.lit_inv
          have hy' := hr.ev y; rw [hy] at hy'; have e3 := hy'.lit_inv
          obtain ⟨G', v', w', a1, a2, a3, a4⟩ := append_nil_ok s0 sz' hr.inv (zero_runs (ty := o.type) hd hd2 hi' hz' s0 (by omega) (by omega)) hrl hone hlen (by omega) (by omega)
          rw [hn] at a1
          rw [c1'] at a4
          exact ⟨G', v', w', .inl (by simp [execOp, ho, resolve, invoke, builtin, e2, e3, a1]), a2, by simp, a3, by simpa using a4⟩
        · rename_i ob off len sz2 hx
          split at h
          · rename_i obj hob
            split at h
            · rename_i hc
              obtain ⟨b1, b2, b3, b4⟩ := hc
              subst b2
              simp only [Option.some.injEq, Prod.mk.injEq] at h
              obtain ⟨rfl, rfl⟩ := h
              intro G a w hr
              have hx' := hr.ev x; rw [hx, ← c1'] at hx'
              have hy' := hr.ev y; rw [hy] at hy'; have e3 := hy'.lit_inv
              have hb2 : (len + n.toNat) * i'.bytes ≤ 2000000000 * 64 := Nat.mul_le_mul (by omega) (by omega)
              obtain ⟨G', v', w', a1, a2, a3, a4⟩ := append_own_ok s0 sz' hr.inv (zero_runs (ty := o.type) hd hd2 hi' hz' s0 (by omega) (by omega)) hrl hone hlen hob b1 hx' (by rw [c1']; exact b3) (by omega) (by omega)
              rw [hn] at a1
              rw [c1'] at a3 a4
              exact ⟨G', v', w', .inl (by simp [execOp, ho, resolve, invoke, builtin, e3, a1]), a2, by simp, a3, by simpa using a4⟩
            · cases h
          · cases h
        · cases h
      · cases h
    · cases h
  · cases h
def strL (b : ByteArray) : List AV := b.data.toList.map fun c => lt (.int .u8 c.toNat)
theorem strL_cells (b : ByteArray) : strL b = (Lib.strCells b).map lt := by unfold strL Lib.strCells; rw [List.map_map]; rfl
theorem strL_one (b : ByteArray) : (strL b).all AV.one = true := by unfold strL; rw [List.all_map, List.all_eq_true]; exact fun _ _ => rfl
def aappendS (tt : TT) (H : AHeap) (t u : Nat) (sv : AV) (b : ByteArray) : Option (AV × AHeap) :=
  match tt t, tt u with
  | some ⟨.sl e, _, _, _⟩, some ⟨.str, _, _, _⟩ => match tt e with
    | some ⟨_, sz, bytes, [z]⟩ => if sz = 1 ∧ bytes = 1 ∧ b.size ≤ 1000000000 then
        (match sv with
        | .iv (.lit (.slice none 0 0)) => some (.osl H.length 0 b.size 1, H ++ [some ⟨e, strL b⟩])
        | .osl o off len sz2 => match H[o]? with
          | some (some obj) => if obj.t = e ∧ sz2 = 1 ∧ off + len * sz2 ≤ obj.cells.length ∧ len ≤ 1000000000 then
              some (.osl H.length 0 (len + b.size) 1, H.set o none ++ [some ⟨e, (obj.cells.drop off).take (len * sz2) ++ strL b⟩]) else none
          | _ => none
        | _ => none) else none
    | _ => none
  | _, _ => none
theorem str_runs {t u ty e : TypeId} {i : TypeInfo} {z : Value} (ht : P.underlying t = some (.slice e)) (hu : P.underlying u = some .string) (hi : P.info? e = some i) (hz : i.zero = some z) (hs1 : i.size = 1) {w : World} (b : ByteArray) : AppRuns P (fun sv => Builtin.append_ #[t, u] ty #[sv, .string b]) e i z w b.size (Lib.strCells b) := by
  refine ⟨fun base sLen sCap hroom => ?_, fun h0 => ?_, fun h0 h63 h48 => ?_, fun h0 a sLen sCap olds h1 h2 h3 h4 h5 => ?_⟩
  · have hf := Lib.run_firstCells_string (P := P) (w := w) i.size b
    cases base with
    | none => simp [Builtin.append_, run_underlying ht, run_underlying hu, sizeOf, typeInfo, hi, Builtin.lenOf, hroom, hf]
    | some a => simp [Builtin.append_, run_underlying ht, run_underlying hu, sizeOf, typeInfo, hi, Builtin.lenOf, hroom, hf]
  · have hf := Lib.run_firstCells_string (P := P) (w := w) i.size b
    rw [h0] at hf
    simp [Builtin.append_, run_underlying ht, run_underlying hu, sizeOf, typeInfo, hi, Builtin.lenOf, h0, hf]
  · have hr := run_append_nil_string (P := P) w t u ty e i z ht hu hi hz b (by omega) (by omega) (by omega)
    have e1 : (b.data.map fun c => Value.int .u8 c.toNat) = (Lib.strCells b).toArray := by
      apply Array.ext'
      simp [Lib.strCells]
    rw [e1] at hr
    exact hr
  · exact Lib.run_append_grow_string (P := P) w t u ty e i z ht hu hi hz a sLen sCap olds h1 h2 b h3 (by omega) (growslice_fits (by omega) h5)
theorem appendS_gives (hT : TyOK P tt) {t u : TypeId} {x y : Operand} {b : ByteArray} {z : AV} {H' : AHeap} (ho : o.op = .call { callee := .builtin .append, args := #[x, y], argTypes := #[t, u] }) (hy : s.ev y = lt (.string b)) (h : aappendS tt s.H t u (s.ev x) b = some (z, H')) : Gives1 P s o z H' := by
  unfold aappendS at h
  split at h
  · rename_i e _ _ _ _ _ _ ht hu
    obtain ⟨ii, d, z0, hi1, hd, hz, e1⟩ := hT.row ht
    simp only [TyRow.mk.injEq] at e1
    have hd' := kind_sl e1.1.symm; subst hd'
    obtain ⟨ii2, d2, z2, hi2, hd2, hz2, e2⟩ := hT.row hu
    simp only [TyRow.mk.injEq] at e2
    have hd2' := kind_str e2.1.symm; subst hd2'
    split at h
    · rename_i kd sz bytes zv hr'
      obtain ⟨i', d', z', hi', hd', hz', e3⟩ := hT.row hr'
      simp only [TyRow.mk.injEq] at e3
      obtain ⟨_, e4, e5, e6⟩ := e3
      split at h
      · rename_i hc
        obtain ⟨c1, c2, c3⟩ := hc
        have c1' : i'.size = 1 := by omega
        have c2' : i'.bytes = 1 := by omega
        have s0 : i'.size ≠ 0 := by omega
        have sz' : z'.cells.size = i'.size := by rw [c1', ← Array.length_toList, ← e6]; rfl
        have hrl : ∀ {m : Nat} {G : Gh}, RL m G (strL b) (Lib.strCells b) := fun {m G} => by rw [strL_cells]; exact RL.lits _ _ _
        have hone := strL_one b
        have hlen : (Lib.strCells b).length = b.size * i'.size := by rw [Lib.strCells_length, c1', Nat.mul_one]
        split at h
        · rename_i hx
          simp only [Option.some.injEq, Prod.mk.injEq] at h
          obtain ⟨rfl, rfl⟩ := h
          intro G a w hr
          have hx' := hr.ev x; rw [hx] at hx'; have e2 := hx'.lit_inv
          have hy' := hr.ev y; rw [hy] at hy'; have e3 := hy'.lit_inv
          obtain ⟨G', v', w', a1, a2, a3, a4⟩ := append_nil_ok s0 sz' hr.inv (str_runs (ty := o.type) hd hd2 hi' hz' c1' b) hrl hone hlen (by rw [c2']; omega) (by omega)
          rw [c1'] at a4
          exact ⟨G', v', w', .inl (by simp [execOp, ho, resolve, invoke, builtin, e2, e3, a1]), a2, by simp, a3, by simpa using a4⟩
        · rename_i ob off len sz2 hx
          split at h
          · rename_i obj hob
            split at h
            · rename_i hc
              obtain ⟨b1, b2, b3, b4⟩ := hc
              subst b2
              simp only [Option.some.injEq, Prod.mk.injEq] at h
              obtain ⟨rfl, rfl⟩ := h
              intro G a w hr
              have hx' := hr.ev x; rw [hx] at hx'
              have hy' := hr.ev y; rw [hy] at hy'; have e3 := hy'.lit_inv
              obtain ⟨G', v', w', a1, a2, a3, a4⟩ := append_own_ok s0 sz' hr.inv (str_runs (ty := o.type) hd hd2 hi' hz' c1' b) hrl hone hlen hob b1 (by rw [c1']; exact hx') (by rw [c1']; exact b3) (by rw [c2']; omega) (by omega)
              rw [c1'] at a3 a4
              exact ⟨G', v', w', .inl (by simp [execOp, ho, resolve, invoke, builtin, e3, a1]), a2, by simp, a3, by simpa using a4⟩
            · cases h
          · cases h
        · cases h
      · cases h
    · cases h
  · cases h
end
end Go.Proofs.YtghdacijcnmhlaaDoor
namespace Go.Proofs.YtghdacijcnmhlaaDoor
open Go.RowKit
set_option linter.unusedVariables false
set_option linter.unusedSimpArgs false
section
variable {P : Program} {tt : TT} {s : AS} {o : Oper}
theorem newRow_run (t : TypeId) (cs : Array Value) (w : World) : (newRow t cs).run P w = .ok ⟨w.heap.size, 0, none⟩ (w.alloc (.cells cs t)) := by
  simp only [newRow, Sem.run_bind, run_newObj, Result.andThen_ok, Sem.run_pure]; rfl
def asets (l : List AV) (off : Nat) : List AV → List AV
  | [] => l
  | x :: xs => asets (l.set off x) (off + 1) xs
theorem asets_length (xs : List AV) : ∀ (l : List AV) (off : Nat), (asets l off xs).length = l.length := by
  induction xs with
  | nil => intro l off; rfl
  | cons x xs ih => intro l off; rw [asets, ih, List.length_set]
def csets (off : Nat) (l : List (Value × Nat)) (cs : Array Value) : Array Value := l.foldl (fun cs (c, j) => cs.setIfInBounds (off + j) c) cs
theorem asets_ok {n : Nat} {G : Gh} (off : Nat) {xs : List AV} : ∀ {l : List AV} {vs : List Value} {cs : Array Value} (k : Nat), RL n G xs vs → RL n G l cs.toList → RL n G (asets l (off + k) xs) (csets off (vs.zipIdx k) cs).toList := by
  induction xs with
  | nil => intro l vs cs k h1 h2; rw [h1.unnil]; exact h2
  | cons x xs ih =>
    intro l vs cs k h1 h2
    obtain ⟨v, us, rfl, h3, h4⟩ := h1.uncons
    rw [asets, List.zipIdx_cons]
    show RL n G (asets (l.set (off + k) x) (off + k + 1) xs) (csets off (us.zipIdx (k + 1)) (cs.setIfInBounds (off + k) v)).toList
    rw [Nat.add_assoc]
    refine ih (k + 1) h4 ?_
    rw [Array.toList_setIfInBounds]
    exact h2.set _ h3
def afill (place : Nat → Option (Nat × Nat)) (l : List AV) : List (Nat × AV) → Option (List AV)
  | [] => some l
  | (i, x) :: rest => match place i with
    | none => none
    | some (off, size) => if (acells x).length = size ∧ off + size ≤ l.length then afill place (asets l off (acells x)) rest else none
def RP (n : Nat) (G : Gh) : List (Nat × AV) → List (Nat × Value) → Prop
  | [], [] => True
  | (i, x) :: xs, (j, v) :: vs => i = j ∧ RA n G x v ∧ RP n G xs vs
  | _, _ => False
theorem RP.of {G : Gh} {a : Act} {w : World} (hr : Rst G s a w) : ∀ l : List (Nat × Operand), RP s.H.length G (l.map fun p => (p.1, s.ev p.2)) (l.map fun p => (p.1, a.eval p.2))
  | [] => trivial
  | p :: l => ⟨rfl, hr.ev p.2, RP.of hr l⟩
theorem afill_ok {n : Nat} {G : Gh} {place : Nat → Option (Nat × Nat)} : ∀ {ps : List (Nat × AV)} {vs : List (Nat × Value)} {l l' : List AV} {cs : Array Value}, afill place l ps = some l' → RP n G ps vs → RL n G l cs.toList →
    ∃ cs', Instr.fill place cs vs = some cs' ∧ RL n G l' cs'.toList
  | [], [], l, l', cs, h, _, hr => by simp only [afill, Option.some.injEq] at h; subst h; exact ⟨cs, rfl, hr⟩
  | [], _ :: _, _, _, _, _, h, _ => h.elim
  | (i, x) :: xs, [], _, _, _, _, h, _ => h.elim
  | (i, x) :: xs, (j, v) :: vs, l, l', cs, h, hp, hr => by
    obtain ⟨rfl, hx, hp'⟩ := hp
    unfold afill at h
    split at h
    · cases h
    · rename_i off size hpl
      split at h
      · rename_i hc
        have hxc := hx.cells
        have hsz : v.cells.size = size := by rw [← hc.1, hxc.1]; simp
        have hcs : cs.size = l.length := by rw [hr.1]; simp
        have hst := asets_ok off 0 hxc hr
        rw [Nat.add_zero] at hst
        obtain ⟨cs', h1, h2⟩ := afill_ok (place := place) (cs := csets off (v.cells.toList.zipIdx 0) cs) h hp' hst
        refine ⟨cs', ?_, h2⟩
        unfold Instr.fill
        rw [hpl]
        have e1 : v.cells.zipIdx.foldl (fun cs (c, j) => cs.setIfInBounds (off + j) c) cs = csets off (v.cells.toList.zipIdx 0) cs := by
          unfold csets
          rw [← Array.foldl_toList]
          congr 1
          simp
        have c1 : ¬ (v.cells.size ≠ size) := by simp [hsz]
        have c2 : ¬ (off + v.cells.size > cs.size) := by rw [hsz, hcs]; omega
        simp only [hsz, ne_eq, not_true, decide_false, Bool.false_or]
        rw [hsz] at c2
        rw [if_neg (by simpa using c2), e1]
        exact h1
      · cases h
def abuildSlice (tt : TT) (H : AHeap) (t len : Nat) (ps : List (Nat × AV)) : Option (AV × AHeap) :=
  match tt t with
  | some ⟨.sl e, _, _, _⟩ => match tt e with
    | some r => if len * r.size ≤ 16777216 ∧ len ≤ 9223372036854775807 then
        match afill (fun i => some (i * r.size, r.size)) (azero r.zero (len * r.size)) ps with
        | some cs => if cs.all AV.one = true then some (.osl H.length 0 len r.size, H ++ [some ⟨e, cs⟩]) else none
        | none => none
      else none
    | none => none
  | _ => none
theorem buildSlice_gives (hT : TyOK P tt) {t len : Nat} {parts : Array (Nat × Operand)} {y : AV} {H' : AHeap} (ho : o.op = .buildSlice t len parts) (h : abuildSlice tt s.H t len (parts.toList.map fun p => (p.1, s.ev p.2)) = some (y, H')) : Gives1 P s o y H' := by
  unfold abuildSlice at h
  split at h
  · rename_i e _ _ _ ht
    obtain ⟨ii, d, z, hi, hd, hz, e1⟩ := hT.row ht
    simp only [TyRow.mk.injEq] at e1
    have hd' := kind_sl e1.1.symm; subst hd'
    split at h
    · rename_i r hr'
      obtain ⟨i', d', z', hi', hd', hz', rfl⟩ := hT.row hr'
      split at h
      · rename_i hc
        have c1 : len * i'.size ≤ 16777216 := hc.1
        split at h
        · rename_i cs hf
          split at h
          · rename_i hall
            simp only [Option.some.injEq, Prod.mk.injEq] at h
            obtain ⟨rfl, rfl⟩ := h
            refine Gives1.newSlice hall fun G a w hr => ?_
            have hz0 := azero_made s.H.length G z'.cells (len * i'.size)
            obtain ⟨cs', h1, h2⟩ := afill_ok hf (RP.of hr parts.toList) hz0
            refine ⟨cs', len, ?_, by rw [take_self _ h2.1]; exact h2, Nat.le_refl _, by unfold maxLen; omega, ?_⟩
            · have e2 : (parts.map fun (i, x) => (i, a.eval x)).toList = parts.toList.map fun p => (p.1, a.eval p.2) := by simp
              have c1' : ¬ (16777216 < len * i'.size) := by omega
              by_cases h0 : len * i'.size = 0
              · have hm : (madeCells z'.cells (len * i'.size)) = #[] := by rw [h0]; simp [madeCells]
                rw [hm] at h1
                simp [execOp, ho, Instr.buildSlice, run_underlying hd, sizeOf_run hi', c1', h0, h1, newRow_run, Array.range_zero']
              · unfold madeCells at h1
                simp [execOp, ho, Instr.buildSlice, run_underlying hd, sizeOf_run hi', c1', h0, zero_run hi' hz', h1, newRow_run]
            · have : cs'.size = len * i'.size := by
                have h3 := h2.1
                have h4 : cs.length = (azero z'.cells.toList (len * i'.size)).length := by
                  clear h1 h2 h3 hr hall
                  generalize azero z'.cells.toList (len * i'.size) = L at hf
                  generalize (parts.toList.map fun p => (p.1, s.ev p.2)) = ps at hf
                  induction ps generalizing L with
                  | nil => simp only [afill, Option.some.injEq] at hf; rw [hf]
                  | cons p ps ih =>
                    obtain ⟨i, x⟩ := p
                    simp only [afill] at hf
                    split at hf
                    · rw [ih _ hf, asets_length]
                    · cases hf
                rw [hz0.1] at h4
                rw [h4] at h3
                simp only [Array.length_toList, size_madeCells] at h3
                omega
              rw [this]; exact Nat.le_refl _
          · cases h
        · cases h
      · cases h
    · cases h
  · cases h
def aplaces (tt : TT) : List (Nat × Nat) → Option (List (Nat × Nat))
  | [] => some []
  | (ft, off) :: fs => match tt ft, aplaces tt fs with
    | some r, some l => some ((off, r.size) :: l)
    | _, _ => none
theorem aplaces_ok (hT : TyOK P tt) (w : World) : ∀ {fs : List Field} {l : List (Nat × Nat)}, aplaces tt (fs.map fun f => (f.type, f.offset)) = some l → (fs.mapM fun f => do pure (f.offset, ← sizeOf f.type) : Sem (List (Nat × Nat))).run P w = .ok l w
  | [], l, h => by simp only [List.map_nil, aplaces, Option.some.injEq] at h; subst h; rfl
  | f :: fs, l, h => by
    simp only [List.map_cons, aplaces] at h
    split at h
    · rename_i r l' hr hl
      obtain ⟨i', d', z', hi', hd', hz', rfl⟩ := hT.row hr
      simp only [Option.some.injEq] at h; subst h
      have ih := aplaces_ok hT w hl
      simp only [List.mapM_cons, Sem.run_bind, sizeOf_run hi', Result.andThen_ok, Sem.run_pure, ih]
    · cases h
def abuild (tt : TT) (t : Nat) (ps : List (Nat × AV)) : Option AV :=
  match tt t with
  | some ⟨.st fs, _, _, zero⟩ => match aplaces tt fs with
    | some l => match afill (fun i : Nat => l[i]?) (zero.map lt) ps with
      | some cs => if cs.all AV.one = true then some (.agg cs) else none
      | none => none
    | none => none
  | some ⟨.arr n e, _, _, zero⟩ => match tt e with
    | some r => match afill (fun i => some (i * r.size, r.size)) (zero.map lt) ps with
      | some cs => if cs.all AV.one = true then some (.agg cs) else none
      | none => none
    | none => none
  | _ => none
theorem build_gives (hT : TyOK P tt) {t : Nat} {parts : Array (Nat × Operand)} {y : AV} (ho : o.op = .build t parts) (h : abuild tt t (parts.toList.map fun p => (p.1, s.ev p.2)) = some y) : Gives1 P s o y s.H := by
  unfold abuild at h
  split at h
  · rename_i fs _ _ zero ht
    obtain ⟨ii, d, z, hi, hd, hz, e1⟩ := hT.row ht
    simp only [TyRow.mk.injEq] at e1
    obtain ⟨fa, rfl, rfl⟩ := kind_st e1.1.symm
    have hzero : zero = z.cells.toList := e1.2.2.2
    split at h
    · rename_i l hl
      split at h
      · rename_i cs hf
        split at h
        · rename_i hall
          simp only [Option.some.injEq] at h; subst h
          refine Gives1.same fun G a w hr => ?_
          have hpl := aplaces_ok hT w hl
          have hz0 : RL s.H.length G (zero.map lt) z.cells.toList := by rw [hzero]; exact RL.lits _ _ _
          obtain ⟨cs', h1, h2⟩ := afill_ok hf (RP.of hr parts.toList) hz0
          refine ⟨.agg cs', ?_, by have := RA.agg cs cs'.toList h2.1 h2.2 hall; simpa using this⟩
          have hmm : (fa.mapM fun f => do pure (f.offset, ← sizeOf f.type) : Sem (Array (Nat × Nat))).run P w = .ok l.toArray w := by
            have e : fa = fa.toList.toArray := by simp
            rw [e, List.mapM_toArray]
            simp only [Sem.run_map]
            rw [hpl]
            rfl
          have e2 : (fun i : Nat => l.toArray[i]?) = fun i : Nat => l[i]? := by funext i; simp
          simp only [execOp, ho, Instr.build, Sem.run_bind, zero_run hi hz, Result.andThen_ok, run_underlying hd, hmm, e2]
          have e3 : (parts.map fun (i, x) => (i, a.eval x)).toList = parts.toList.map fun p => (p.1, a.eval p.2) := by simp
          rw [e3, h1]
          rfl
        · cases h
      · cases h
    · cases h
  · rename_i n e _ _ zero ht
    obtain ⟨ii, d, z, hi, hd, hz, e1⟩ := hT.row ht
    simp only [TyRow.mk.injEq] at e1
    have hd' := kind_arr e1.1.symm; subst hd'
    have hzero : zero = z.cells.toList := e1.2.2.2
    split at h
    · rename_i r hr'
      obtain ⟨i', d', z', hi', hd', hz', rfl⟩ := hT.row hr'
      split at h
      · rename_i cs hf
        split at h
        · rename_i hall
          simp only [Option.some.injEq] at h; subst h
          refine Gives1.same fun G a w hr => ?_
          have hz0 : RL s.H.length G (zero.map lt) z.cells.toList := by rw [hzero]; exact RL.lits _ _ _
          obtain ⟨cs', h1, h2⟩ := afill_ok hf (RP.of hr parts.toList) hz0
          refine ⟨.agg cs', ?_, by have := RA.agg cs cs'.toList h2.1 h2.2 hall; simpa using this⟩
          simp only [execOp, ho, Instr.build, Sem.run_bind, zero_run hi hz, Result.andThen_ok, run_underlying hd, sizeOf_run hi']
          have e3 : (parts.map fun (i, x) => (i, a.eval x)).toList = parts.toList.map fun p => (p.1, a.eval p.2) := by simp
          rw [e3, h1]
          rfl
        · cases h
      · cases h
    · cases h
  · cases h
end
end Go.Proofs.YtghdacijcnmhlaaDoor
namespace Go.Proofs.YtghdacijcnmhlaaDoor
open Go.RowKit
set_option linter.unusedVariables false
set_option linter.unusedSimpArgs false
def aminmax (mx : Bool) : List AV → Option Value
  | [.iv (.lit (.int k x)), .iv (.lit (.int _ y))] => some (.int k (if mx = true then max x y else min x y))
  | [.iv (.lit (.int k x)), .iv (.lit (.int _ y)), .iv (.lit (.int _ z))] => some (.int k (if mx = true then max (max x y) z else min (min x y) z))
  | _ => none
def abuiltin (tt : TT) (s : AS) (b : Builtin) (args : List Operand) (tys : List TypeId) : Option (AV × AHeap) :=
  match b, args, tys with
  | .len, [x], [t] => (alen tt t (s.ev x)).map fun (n : Nat) => (lt (.int .i64 (n : Int)), s.H)
  | .append, [x, y], [t, u] => if t = u then aappend tt s.H t (s.ev x) (s.ev y) else match s.ev y with
    | .iv (.lit (.string b)) => aappendS tt s.H t u (s.ev x) b
    | _ => aappendZ tt s.H t u (s.ev x) (s.ev y)
  | .max, xs, _ => (aminmax true (xs.map s.ev)).map fun v => (lt v, s.H)
  | .min, xs, _ => (aminmax false (xs.map s.ev)).map fun v => (lt v, s.H)
  | _, _, _ => none
def aop (tt : TT) (s : AS) (o : Oper) : Option (AV × AHeap) :=
  match o.op with
  | .move x => some (s.ev x, s.H)
  | .assign x => some (s.ev x, s.H)
  | .pick c a b => match s.ev c with
    | .iv (.lit (.bool p)) => some (apick p (s.ev a) (s.ev b), s.H)
    | _ => none
  | .alloc e => match tt e with
    | some r => abox s.H e (r.zero.map lt)
    | none => none
  | .box e x => abox s.H e (acells (s.ev x))
  | .build t ps => (abuild tt t (ps.toList.map fun p => (p.1, s.ev p.2))).map fun x => (x, s.H)
  | .buildSlice t n ps => abuildSlice tt s.H t n (ps.toList.map fun p => (p.1, s.ev p.2))
  | .load t x => (aload tt s.H t (s.ev x)).map fun y => (y, s.H)
  | .store t p x => (astore tt s.H t (s.ev p) (s.ev x)).map fun H => (uD, H)
  | .nilCheck x => if notNil (s.ev x) = true then some (s.ev x, s.H) else none
  | .binOp op t x y _ => (abin tt op t (s.ev x) (s.ev y)).map fun v => (lt v, s.H)
  | .unOp op _ x => (aun op (s.ev x)).map fun v => (lt v, s.H)
  | .convert src dst x => match tt src with
    | some _ => (aconv tt dst (s.ev x)).map fun v => (lt v, s.H)
    | none => none
  | .makeFunc fn first caps => match fn with
    | .func f => some (.fn f (first.toList.map s.ev) (caps.toList.map s.ev), s.H)
    | _ => none
  | .makeSlice t l c => amake tt s.H t (s.ev l) (s.ev c)
  | .slice t x lo hi mx => match mx with
    | none => (aslice tt t (s.ev x) (lo.map s.ev) (hi.map s.ev)).map fun y => (y, s.H)
    | some _ => none
  | .fieldAddr t x f => (afieldAddr tt t (s.ev x) f).map fun y => (y, s.H)
  | .field t x f => (afield tt t (s.ev x) f).map fun y => (y, s.H)
  | .indexAddr t x i => (aindexAddr tt t (s.ev x) (s.ev i)).map fun y => (y, s.H)
  | .index t x i => (aindex tt t (s.ev x) (s.ev i)).map fun y => (y, s.H)
  | .extract x i => match s.ev x with
    | .tup xs => xs[i]?.map fun y => (y, s.H)
    | _ => none
  | .call c => match c.callee with
    | .builtin b => abuiltin tt s b c.args.toList c.argTypes.toList
    | _ => none
  | _ => none
section
variable {P : Program} {tt : TT} {s : AS} {o : Oper} {Q : Exit → AS → Prop}
theorem minmax_run {mx : Bool} {l : List AV} {v : Value} (h : aminmax mx l = some v) {n : Nat} {G : Gh} {vs : List Value} (hr : RL n G l vs) (t : Array TypeId) (ty : TypeId) (w : World) : ((if mx = true then Builtin.max_ t ty vs.toArray else Builtin.min_ t ty vs.toArray) : Sem Value).run P w = .ok v w := by
  unfold aminmax at h
  split at h
  · rename_i k x k' y
    simp only [Option.some.injEq] at h; subst h
    obtain ⟨v1, us, rfl, h1, hr⟩ := hr.uncons
    obtain ⟨v2, us, rfl, h2, hr⟩ := hr.uncons
    rw [hr.unnil, h1.lit_inv, h2.lit_inv]
    cases mx
    · simp [Builtin.min_, Builtin.min2, Int.min_def]
      by_cases h1 : y < x <;> by_cases h2 : x ≤ y <;> simp [h1, h2] <;> omega
    · simp [Builtin.max_, Builtin.max2, Int.max_def]
      by_cases h1 : x < y <;> by_cases h2 : x ≤ y <;> simp [h1, h2] <;> omega
  · rename_i k x k' y k'' z
    simp only [Option.some.injEq] at h; subst h
    obtain ⟨v1, us, rfl, h1, hr⟩ := hr.uncons
    obtain ⟨v2, us, rfl, h2, hr⟩ := hr.uncons
    obtain ⟨v3, us, rfl, h3, hr⟩ := hr.uncons
    rw [hr.unnil, h1.lit_inv, h2.lit_inv, h3.lit_inv]
    cases mx
    · simp [Builtin.min_, Builtin.min2]
      (repeat' split) <;> omega
    · simp [Builtin.max_, Builtin.max2]
      (repeat' split) <;> omega
  · cases h
theorem aop_gives (hT : TyOK P tt) {x : AV} {H' : AHeap} (h : aop tt s o = some (x, H')) : Gives1 P s o x H' := by
  unfold aop at h
  split at h
  case h_1 y ho => simp only [Option.some.injEq, Prod.mk.injEq] at h; obtain ⟨rfl, rfl⟩ := h; exact move_gives (.inl ho)
  case h_2 y ho => simp only [Option.some.injEq, Prod.mk.injEq] at h; obtain ⟨rfl, rfl⟩ := h; exact move_gives (.inr ho)
  case h_3 c a b ho =>
    split at h
    · rename_i p hc; simp only [Option.some.injEq, Prod.mk.injEq] at h; obtain ⟨rfl, rfl⟩ := h; exact pick_gives ho hc
    · cases h
  case h_4 e ho =>
    split at h
    · rename_i r hr; exact alloc_gives hT ho hr h
    · cases h
  case h_5 e y ho => exact box_gives ho h
  case h_6 t ps ho =>
    obtain ⟨y, hy, e⟩ := Option.map_eq_some_iff.1 h
    simp only [Prod.mk.injEq] at e; obtain ⟨rfl, rfl⟩ := e; exact build_gives hT ho hy
  case h_7 t n ps ho => exact buildSlice_gives hT ho h
  case h_8 t y ho =>
    obtain ⟨z, hz, e⟩ := Option.map_eq_some_iff.1 h
    simp only [Prod.mk.injEq] at e; obtain ⟨rfl, rfl⟩ := e
    refine Gives1.same fun G a w hr => ?_
    obtain ⟨ad, u, h1, h2, h3⟩ := aload_ok hT s.H t _ _ hz G w _ hr.inv (hr.ev y)
    exact ⟨u, by simp [execOp, ho, Instr.loadAt, h1, Instr.sureAddr, h2], h3⟩
  case h_9 t p y ho =>
    obtain ⟨z, hz, e⟩ := Option.map_eq_some_iff.1 h
    simp only [Prod.mk.injEq] at e; obtain ⟨rfl, rfl⟩ := e; exact store_gives hT ho hz
  case h_10 y ho =>
    split at h
    · rename_i hn; simp only [Option.some.injEq, Prod.mk.injEq] at h; obtain ⟨rfl, rfl⟩ := h; exact nilCheck_gives ho hn
    · cases h
  case h_11 op t y z ty ho =>
    obtain ⟨v, hv, e⟩ := Option.map_eq_some_iff.1 h
    simp only [Prod.mk.injEq] at e; obtain ⟨rfl, rfl⟩ := e; exact bin_gives hT ho hv
  case h_12 op t y ho =>
    obtain ⟨v, hv, e⟩ := Option.map_eq_some_iff.1 h
    simp only [Prod.mk.injEq] at e; obtain ⟨rfl, rfl⟩ := e; exact un_gives ho hv
  case h_13 src dst y ho =>
    split at h
    · rename_i r hr
      obtain ⟨v, hv, e⟩ := Option.map_eq_some_iff.1 h
      simp only [Prod.mk.injEq] at e; obtain ⟨rfl, rfl⟩ := e; exact conv_gives hT ho hr hv
    · cases h
  case h_14 fn first caps ho =>
    split at h
    · simp only [Option.some.injEq, Prod.mk.injEq] at h; obtain ⟨rfl, rfl⟩ := h; exact makeFunc_gives ho
    · cases h
  case h_15 t l c ho => exact make_gives hT ho h
  case h_16 t y lo hi mx ho =>
    split at h
    · obtain ⟨z, hz, e⟩ := Option.map_eq_some_iff.1 h
      simp only [Prod.mk.injEq] at e; obtain ⟨rfl, rfl⟩ := e; exact slice_gives hT ho hz
    · cases h
  case h_17 t y f ho =>
    obtain ⟨z, hz, e⟩ := Option.map_eq_some_iff.1 h
    simp only [Prod.mk.injEq] at e; obtain ⟨rfl, rfl⟩ := e; exact fieldAddr_gives hT ho hz
  case h_18 t y f ho =>
    obtain ⟨z, hz, e⟩ := Option.map_eq_some_iff.1 h
    simp only [Prod.mk.injEq] at e; obtain ⟨rfl, rfl⟩ := e; exact field_gives hT ho hz
  case h_19 t y i ho =>
    obtain ⟨z, hz, e⟩ := Option.map_eq_some_iff.1 h
    simp only [Prod.mk.injEq] at e; obtain ⟨rfl, rfl⟩ := e; exact indexAddr_gives hT ho hz
  case h_20 t y i ho =>
    obtain ⟨z, hz, e⟩ := Option.map_eq_some_iff.1 h
    simp only [Prod.mk.injEq] at e; obtain ⟨rfl, rfl⟩ := e; exact index_gives hT ho hz
  case h_21 y i ho =>
    split at h
    · rename_i xs hx
      obtain ⟨z, hz, e⟩ := Option.map_eq_some_iff.1 h
      simp only [Prod.mk.injEq] at e; obtain ⟨rfl, rfl⟩ := e; exact extract_gives ho hx hz
    · cases h
  case h_22 c ho =>
    obtain ⟨callee, args, tys⟩ := c
    split at h
    · rename_i b hb
      dsimp only at hb; subst hb
      unfold abuiltin at h
      split at h
      · rename_i y t e1 e2
        have f1 : args = #[y] := by rw [← Array.toArray_toList (xs := args)]; dsimp only at e1; rw [e1]
        have f2 : tys = #[t] := by rw [← Array.toArray_toList (xs := tys)]; dsimp only at e2; rw [e2]
        clear e1 e2
        subst f1 f2
        obtain ⟨n, hn, e⟩ := Option.map_eq_some_iff.1 h
        simp only [Prod.mk.injEq] at e; obtain ⟨rfl, rfl⟩ := e
        exact len_gives hT ho hn
      · rename_i y z t u e1 e2
        have f1 : args = #[y, z] := by rw [← Array.toArray_toList (xs := args)]; dsimp only at e1; rw [e1]
        have f2 : tys = #[t, u] := by rw [← Array.toArray_toList (xs := tys)]; dsimp only at e2; rw [e2]
        clear e1 e2
        subst f1 f2
        split at h
        · rename_i htu; subst htu; exact append_gives hT ho h
        · split at h
          · rename_i b hb; exact appendS_gives hT ho hb h
          · exact appendZ_gives hT ho h
      · rename_i xs _
        obtain ⟨v, hv, e⟩ := Option.map_eq_some_iff.1 h
        simp only [Prod.mk.injEq] at e; obtain ⟨rfl, rfl⟩ := e
        refine Gives1.same fun G a w hr => ⟨v, ?_, .iv _ _ (.lit _)⟩
        have := minmax_run (P := P) hv (AS.args hr args.toList) tys o.type w
        have e3 : (args.toList.map a.eval).toArray = args.map a.eval := by apply Array.toList_inj.1; simp
        rw [e3] at this
        simp only [if_true] at this
        simp [execOp, ho, resolve, invoke, builtin, this]
      · rename_i xs _
        obtain ⟨v, hv, e⟩ := Option.map_eq_some_iff.1 h
        simp only [Prod.mk.injEq] at e; obtain ⟨rfl, rfl⟩ := e
        refine Gives1.same fun G a w hr => ⟨v, ?_, .iv _ _ (.lit _)⟩
        have := minmax_run (P := P) hv (AS.args hr args.toList) tys o.type w
        have e3 : (args.toList.map a.eval).toArray = args.map a.eval := by apply Array.toList_inj.1; simp
        rw [e3] at this
        simp only [Bool.false_eq_true, if_false] at this
        simp [execOp, ho, resolve, invoke, builtin, this]
      · cases h
    · cases h
  case h_23 => cases h
def thinO (d : Option Tmp) : Oper := ⟨d, .move (.const undef), 0, "", #[], none⟩
def idB (n : Nat) : Array Oper := (thinO none :: (List.range n).map fun d => thinO (some d)).toArray
theorem idB_at (n k : Nat) : ((idB n)[k]?).bind (·.dst) = if k = 0 then none else if k - 1 < n then some (k - 1) else none := by
  unfold idB
  rw [List.getElem?_toArray]
  cases k with
  | zero => rfl
  | succ k =>
    rw [List.getElem?_cons_succ, List.getElem?_map, if_neg (Nat.succ_ne_zero k), Nat.add_sub_cancel]
    by_cases h : k < n
    · rw [if_pos h, List.getElem?_range h]; rfl
    · rw [if_neg h, List.getElem?_eq_none (by simpa using h)]; rfl
def wantedS (fr : List AV) (o : Oper) : Option Bool :=
  match o.guard with
  | none => some true
  | some (k, want) => match (AV.iv (.lit (.tuple #[])) :: fr)[k]? with
      | none => some false
      | some (.iv (.lit (.bool b))) => some (b == want)
      | some (.iv (.lit (.tuple _))) => some false
      | _ => none
theorem wantedS_ok {n : Nat} {s : AS} {o : Oper} (h : s.fr.length ≤ n) : AS.wanted s (idB n) o = wantedS s.fr o := by
  unfold AS.wanted wantedS
  cases o.guard with
  | none => rfl
  | some jw =>
    obtain ⟨k, want⟩ := jw
    simp only [idB_at]
    cases k with
    | zero => rfl
    | succ k =>
      rw [if_neg (Nat.succ_ne_zero k), Nat.add_sub_cancel, List.getElem?_cons_succ]
      by_cases h1 : k < n
      · rw [if_pos h1]; rfl
      · rw [if_neg h1, List.getElem?_eq_none (by omega)]
def arun (tt : TT) : List Oper → AS → List Oper × AS
  | [], s => ([], s)
  | o :: rest, s => match wantedS s.fr o with
    | some false => arun tt rest ⟨s.put o.dst uD, s.H⟩
    | some true => match aop tt s o with
      | some (x, H') => arun tt rest ⟨s.put o.dst x, H'⟩
      | none => (o :: rest, s)
    | none => (o :: rest, s)
end
end Go.Proofs.YtghdacijcnmhlaaDoor
namespace Go.Proofs.YtghdacijcnmhlaaDoor
open Go.RowKit
set_option linter.unusedVariables false
set_option linter.unusedSimpArgs false
section
variable {P : Program} {tt : TT}
def gix : Option (Option Tmp) → Nat
  | some (some d) => d + 1
  | _ => 0
def strip (ds : List (Option Tmp)) (o : Oper) : Oper := ⟨o.dst, o.op, o.type, "", #[], o.guard.map fun p => (gix ds[p.1]?, p.2)⟩
theorem strip_mk (ds : List (Option Tmp)) (d : Option Tmp) (op : Op) (t : TypeId) (p : String) (a : Array Edge) : strip ds ⟨d, op, t, p, a, none⟩ = ⟨d, op, t, "", #[], none⟩ := rfl
theorem strip_gd (ds : List (Option Tmp)) (d : Option Tmp) (op : Op) (t : TypeId) (p : String) (a : Array Edge) (j : Nat) (b : Bool) : strip ds ⟨d, op, t, p, a, some (j, b)⟩ = ⟨d, op, t, "", #[], some (gix ds[j]?, b)⟩ := rfl
theorem gix_some (d : Tmp) : gix (some (some d)) = d + 1 := rfl
theorem lapp_cons {α : Type} (a : α) (l m : List α) : List.append (a :: l) m = a :: List.append l m := rfl
theorem lapp_nil {α : Type} (m : List α) : List.append [] m = m := rfl
theorem apick_b (b p q : Bool) : apick b (lt (.bool p)) (lt (.bool q)) = lt (.bool (bif b then p else q)) := rfl
theorem apick_l (x : AV) : apick true x uD = x := by unfold apick; split <;> first | rfl | (rename_i h; cases h)
theorem apick_r (y : AV) : apick false uD y = y := by unfold apick; split <;> first | rfl | (rename_i h; cases h)
def dsts (ops : List Oper) : List (Option Tmp) := ops.map (·.dst)
def topD : List (Option Tmp) → Nat
  | [] => 0
  | none :: l => topD l
  | some d :: l => max (d + 1) (topD l)
theorem topD_lt {d : Tmp} : ∀ {ds : List (Option Tmp)}, some d ∈ ds → d < topD ds
  | x :: l, h => by
    rcases List.mem_cons.1 h with h | h
    · subst h; exact Nat.lt_of_lt_of_le (Nat.lt_succ_self d) (Nat.le_max_left _ _)
    · have := topD_lt h
      cases x with
      | none => exact this
      | some e => exact Nat.lt_of_lt_of_le this (Nat.le_max_right _ _)
theorem slot_at {ops : List Oper} {n : Nat} (hn : topD (dsts ops) ≤ n) (j : Nat) : ((idB n)[gix (dsts ops)[j]?]?).bind (·.dst) = (ops.toArray[j]?).bind (·.dst) := by
  rw [idB_at, List.getElem?_toArray]
  have e : (dsts ops)[j]? = (ops[j]?).map (·.dst) := by unfold dsts; rw [List.getElem?_map]
  cases ho : ops[j]? with
  | none => rw [ho] at e; rw [e]; rfl
  | some o =>
    rw [ho] at e
    simp only [Option.map_some] at e
    rw [e]
    cases hd : o.dst with
    | none => simp [gix, hd]
    | some d =>
      have := topD_lt (List.mem_iff_getElem?.2 ⟨j, by rw [e, hd]⟩)
      rw [gix_some, if_neg (Nat.succ_ne_zero d), Nat.add_sub_cancel, if_pos (Nat.lt_of_lt_of_le this hn)]
      simp [hd]
theorem strip_guard (ds : List (Option Tmp)) (o : Oper) : (strip ds o).guard = o.guard.map fun p => (gix ds[p.1]?, p.2) := rfl
theorem exec_strip (ds : List (Option Tmp)) (ρ : Operand → Value) (o : Oper) : execOp ρ (strip ds o) = execOp ρ o := by
  unfold execOp strip; rfl
theorem wp_strip (ds : List (Option Tmp)) (o : Oper) (a : Act) (w : World) (next : Act → World → Prop) (Q : Exit → Act → World → Prop) : (strip ds o).wp P a w next Q = o.wp P a w next Q := by
  unfold Oper.wp
  rw [exec_strip]
  generalize (execOp a.eval o).run P w = r
  unfold Oper.upon
  rfl
theorem asks_strip (ds : List (Option Tmp)) (o : Oper) (a : Act) (w : World) : (strip ds o).asks P a w = o.asks P a w := by
  unfold Oper.asks; rw [exec_strip]
theorem wanted_strip {ops : List Oper} {n : Nat} (hn : topD (dsts ops) ≤ n) (o : Oper) (tmps : Array Value) : Region.wanted (strip (dsts ops) o) (yielded (idB n) tmps) = Region.wanted o (yielded ops.toArray tmps) := by
  unfold Region.wanted
  rw [strip_guard]
  cases o.guard with
  | none => rfl
  | some jw =>
    obtain ⟨j, want⟩ := jw
    simp only [Option.map_some, yielded, slot_at hn]
theorem wpList_strip {ops : List Oper} {n : Nat} (hn : topD (dsts ops) ≤ n) (Q : Exit → Act → World → Prop) : ∀ (l : List Oper) (a : Act) (w : World), wpList P (idB n) Q (l.map (strip (dsts ops))) a w = wpList P ops.toArray Q l a w
  | [], a, w => rfl
  | o :: l, a, w => by
    have e : wpList P (idB n) Q (l.map (strip (dsts ops))) = wpList P ops.toArray Q l := by funext a w; exact wpList_strip hn Q l a w
    show wpList P (idB n) Q (strip (dsts ops) o :: l.map (strip (dsts ops))) a w = _
    unfold wpList
    rw [wanted_strip hn, wp_strip, asks_strip, e]
    rfl
end
end Go.Proofs.YtghdacijcnmhlaaDoor
