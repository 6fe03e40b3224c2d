/- 'append(v, x...)' as one step of a region that draws its order, whatever x is. -/
import Derived.Deep.AppendLies
import Derived.Test.YtcifneenbdibeaaOwn
namespace Go.Proofs.Ytcifneenbdibeaa
open Go.RowKit
set_option linter.unusedVariables false

theorem step_app {P : Program} {w : World} {ops : Array Oper} {o : Oper} {a : Act} {K : Act → World → Prop} {Q : Exit → Act → World → Prop} {E : Prop} (hgd : o.guard = none) (s x : Operand) (t : TypeId)
    (ho : o.op = .call { callee := .builtin .append, args := #[s, x], argTypes := #[t, t] })
    (base : Nat) (e : TypeId) (z : Value) (size bytes : Nat) (ht : P.underlying t = some (.slice e)) (hinfo : (P.info? e).map (fun i => (i.zero, i.size, i.bytes)) = some (some z, size, bytes)) (hzs : z.cells.size = size) (hsz : 0 < size)
    (v : Value) (n : Nat) (xs : List Value) (hs : a.eval s = v) (hown : w.ownsRow base e size v n xs)
    (A : Option Addr) (m c : Nat) (news : List Value) (hx : a.eval x = .slice A m c) (hc : A = none → c = 0) (hl : news.length = m * size) (hrow : CellRow w A news) (h1 : ∀ u ∈ news, u.oneCell' = true)
    (h63 : n + m ≤ maxLen) (hbytes : (n + m) * bytes ≤ 140737488355328) (hbase : base ≤ w.heap.size)
    (h : ∀ v' w', w'.ownsRow base e size v' (n + m) (xs ++ news) → w.grownBy w' v.ownBlock → K (a.put o.dst v') w') :
    if Region.wanted o (yielded ops a.tmps) = true then Oper.wp P o a w K Q else E := by
  have hw : Region.wanted o (yielded ops a.tmps) = true := by simp [Region.wanted, hgd]
  rw [if_pos hw]
  obtain ⟨i, hi, hzz⟩ := Option.map_eq_some_iff.1 hinfo
  simp only [Prod.mk.injEq] at hzz
  obtain ⟨hz, hsize, hby⟩ := hzz
  cases A with
  | none =>
    have hnews : news = [] := by
      cases news with
      | nil => rfl
      | cons u us => obtain ⟨b, off, h0, _⟩ := hrow 0 u rfl; cases h0
    subst hnews
    have hm : m = 0 := by
      rcases Nat.eq_zero_or_pos m with h0 | h0
      · exact h0
      · have := Nat.mul_pos h0 hsz; simp at hl; omega
    subst hm
    rw [hc rfl] at hx
    have hrun := run_append_owned_none (P := P) (w := w) base t o.type e i size ht hi v n xs hown
    unfold Oper.wp
    simp [execOp, ho, resolve, invoke, builtin, hs, hx, hrun, Result.andThen]
    exact h v w (by simpa using hown) (World.grownBy.refl w _)
  | some ad =>
    obtain ⟨b, off, spot⟩ := ad
    by_cases hspot : news = []
    · subst hspot
      exact wp_append_own w s x t ho base e i z size bytes ht hi hz hsize hby hzs hsz v n xs hs hown ⟨b, off, spot⟩ m c [] hx hl (fun j u hj => by simp at hj) (fun u hu => by cases hu) h63 hbytes hbase fun v' w' h2 h3 _ => h v' w' h2 h3
    · have hsp : spot = none := by
        cases news with
        | nil => exact absurd rfl hspot
        | cons u us => obtain ⟨b', off', h0, _⟩ := hrow 0 u rfl; cases h0; rfl
      subst hsp
      refine wp_append_own w s x t ho base e i z size bytes ht hi hz hsize hby hzs hsz v n xs hs hown ⟨b, off, none⟩ m c news hx hl (fun j u hj => ?_) h1 h63 hbytes hbase fun v' w' h2 h3 _ => h v' w' h2 h3
      obtain ⟨b', off', h0, hcell⟩ := hrow j u hj
      cases h0
      by_cases hj0 : j = 0 <;> simpa [Addr.add, hj0] using hcell
/-- Which call it is, told ahead of its law. -/
theorem step_if {P : Program} {w : World} {ops : Array Oper} {o : Oper} {a : Act} {K : Act → World → Prop} {Q : Exit → Act → World → Prop} {E : Prop} (s x : Operand) (t : TypeId) (ho : o.op = .call { callee := .builtin .append, args := #[s, x], argTypes := #[t, t] })
    (h : if Region.wanted o (yielded ops a.tmps) = true then Oper.wp P o a w K Q else E) : if Region.wanted o (yielded ops a.tmps) = true then Oper.wp P o a w K Q else E := h
theorem with_fact {T G : Prop} (h : T) (k : T → G) : G := k h
/-- A part of a row. -/
theorem CellRow.part {w : World} {b off : Nat} {xs : List Value} (h : CellRow w (some ⟨b, off, none⟩) xs) (i j : Nat) : CellRow w (some ⟨b, off + i, none⟩) ((xs.drop i).take j) := fun q u hq => by
  have h1 : xs[i + q]? = some u := by
    rw [List.getElem?_take] at hq
    split at hq
    · simpa using hq
    · cases hq
  obtain ⟨b', off', h0, hc⟩ := h (i + q) u h1
  cases h0
  exact ⟨b, off + i, rfl, by rw [← hc, Nat.add_assoc]⟩
theorem CellRow.nil (w : World) (A : Option Addr) : CellRow w A [] := fun j u h => by simp at h
theorem IntRow.cells {w : World} {a : Option Addr} {len : Nat} {xs : List Int} (h : IntRow w a len xs) : CellRow w a (xs.map (Value.int .i64)) := fun j u hj => by
  have hj' : j < xs.length := by
    rcases Nat.lt_or_ge j xs.length with h1 | h1
    · exact h1
    · rw [List.getElem?_eq_none (by simpa using h1)] at hj; cases hj
  obtain ⟨b, off, h0, hc⟩ := h.2.2 (by rw [← h.1]; omega)
  refine ⟨b, off, h0, ?_⟩
  rw [hc j (by rw [← h.1]; exact hj')]
  simp [List.getElem?_map, List.getElem?_eq_getElem hj'] at hj
  simp [List.getD, hj', ← hj]
theorem own_built_at {w : World} {b : Nat} (B : Nat) (e : TypeId) (vs : List Value) (hb : b = w.heap.size) (hB : B ≤ b) (hm : vs.length ≤ maxLen) : (w.alloc (.cells vs.toArray e)).ownsRow B e 1 (.slice (some ⟨b, 0, none⟩) vs.length vs.length) vs.length vs := by
  subst hb
  exact ⟨by omega, Or.inr ⟨w.heap.size, vs.length, vs.toArray, rfl, hB, heap_alloc_new w _, Nat.le_refl _, hm, by simp, by simp⟩⟩
theorem CellRow.at {w : World} {b : Nat} (vs : List Value) (t : TypeId) (hb : b = w.heap.size) : CellRow (w.alloc (.cells vs.toArray t)) (some ⟨b, 0, none⟩) vs := by subst hb; exact CellRow.made w vs t
theorem CellRow.grown {w w' : World} {r : Option Nat} {b off : Nat} {xs : List Value} (hg : w.grownBy w' r) (h : CellRow w (some ⟨b, off, none⟩) xs) (hr : some b ≠ r) : CellRow w' (some ⟨b, off, none⟩) xs := fun j u hj => by
  obtain ⟨b', off', h0, hc⟩ := h j u hj
  cases h0
  exact ⟨b, off, rfl, keep_grown hg hc hr⟩
theorem own_form {w : World} {B : Nat} {e : TypeId} {v : Value} {n : Nat} {xs : List Value} (h : w.ownsRow B e 1 v n xs) :
    (v = .slice none 0 0 ∧ n = 0) ∨ ∃ g cap, v = .slice (some ⟨g, 0, none⟩) n cap ∧ B ≤ g ∧ n ≤ cap ∧ cap ≤ maxLen ∧ CellRow w (some ⟨g, 0, none⟩) xs := by
  obtain ⟨hl, h1 | ⟨g, cap, cur, h1, h2, h3, h4, h5, h6, h7⟩⟩ := h
  · exact Or.inl h1
  · refine Or.inr ⟨g, cap, h1, h2, h4, h5, fun j u hj => ⟨g, 0, rfl, ?_⟩⟩
    rw [Nat.zero_add, cell_of_row w g j cur e _ h3]
    rw [← h7, Nat.mul_one, List.getElem?_take] at hj
    split at hj
    · simpa using hj
    · cases hj
end Go.Proofs.Ytcifneenbdibeaa
