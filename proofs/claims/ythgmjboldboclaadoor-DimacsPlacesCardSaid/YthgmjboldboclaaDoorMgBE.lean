import Derived.Test.YthgmjboldboclaaDoorMgAA
namespace Go.Proofs.YthgmjboldboclaaDoor
open Go.ChangeShapes Go.WideShapes Go.ChangeAt Go.RowKit
open Go.Deep (oneCellFields)
set_option linter.unusedVariables false
theorem ints_of_trod {P : Program} {H : Type} {enc : TypeId × Value → H} {W : World} {base : Nat} {sp : Nat → Bool} {held : Bool} {t e : TypeId} {u : Value} {n : Nat} {y : DataW H × List MemPlace}
    (ht : P.underlying t = some (.slice e)) (he : P.underlying e = some (.int .i64)) (hc : P.cellsOf e = 1) (h : DataW.trod enc P W base sp held n t [u] = some y) : ∃ xs, Ints W u xs ∧ Fits xs := by
  rcases open_ints ht he hc h with ⟨hcs, _⟩ | ⟨y, l, c, zs, hcs, _, hl, hm, hz, _, hcell, hwz⟩
  · simp only [List.cons.injEq, and_true] at hcs
    subst hcs
    exact ⟨[], Ints.nil W, fun x hx => by cases hx⟩
  · simp only [List.cons.injEq, and_true] at hcs
    subst hcs
    have hz' : l ≤ zs.length := by rw [hz]; split <;> omega
    refine ⟨zs.take l, ⟨_, l, c, rfl, hl, hm, by simp; omega, by omega, fun hp => ?_⟩, fun x hx => bounds_i64 (hwz x (List.mem_of_mem_take hx))⟩
    obtain ⟨b, off, spot⟩ := y
    have h0 := hcell 0 (by omega)
    have hspot : spot = none := by simpa [Addr.add] using World.cell?_spot h0
    subst hspot
    refine ⟨b, off, rfl, fun i hi => ?_⟩
    have h1 := hcell i (by omega)
    rw [show (zs.take l).getD i 0 = zs.getD i 0 by simp [List.getD, hi]]
    rw [← h1]
    by_cases h2 : i = 0 <;> simp [Addr.add, h2]
def FitsR (xss : List (List Int)) : Prop := ∀ xs ∈ xss, Fits xs
theorem rows_of_trod {P : Program} {H : Type} {enc : TypeId × Value → H} {W : World} {base : Nat} {sp : Nat → Bool} {held : Bool} {t e i : TypeId} {v : Value} {n : Nat} {y : DataW H × List MemPlace}
    (ht : P.underlying t = some (.slice e)) (he : P.underlying e = some (.slice i)) (hi : P.underlying i = some (.int .i64)) (hce : P.cellsOf e = 1) (hci : P.cellsOf i = 1) (h : DataW.trod enc P W base sp held n t [v] = some y) :
    ∃ a len cap xss, v = .slice a len cap ∧ Rows2 W a len xss ∧ FitsR xss ∧ len ≤ cap ∧ cap ≤ maxLen ∧ (a = none → cap = 0) := by
  rcases Go.Deep.open_slice1 ht hce h with ⟨hcs, _⟩ | ⟨y, l, c, m, n, V, D, Pl, hcs, _, hl, hm, hmm, _, hcell⟩
  · simp only [List.cons.injEq, and_true] at hcs
    subst hcs
    exact ⟨none, 0, 0, [], rfl, ⟨rfl, Nat.zero_le _, fun i hi => by omega⟩, (fun xs hx => by cases hx), Nat.le_refl _, Nat.zero_le _, fun _ => rfl⟩
  · simp only [List.cons.injEq, and_true] at hcs
    subst hcs
    have hz' : l ≤ m := by rw [hmm]; split <;> omega
    have hrow : ∀ k, k < l → ∃ xs, Ints W (V k) xs ∧ Fits xs := fun k hk => ints_of_trod he hi hci (hcell k (by omega)).2
    obtain ⟨g, hg⟩ := Go.Deep.choose_lt hrow
    refine ⟨some y, l, c, (List.range l).map g, rfl, ⟨by simp, by omega, fun k hk => ?_⟩, fun xs hx => ?_, hl, hm, fun h => by cases h⟩
    · obtain ⟨b, off, spot⟩ := y
      have h0 := (hcell k (by omega)).1
      have hspot : spot = none := by
        have h9 := (hcell 0 (by omega)).1
        simpa [Addr.add] using World.cell?_spot h9
      subst hspot
      refine ⟨b, off, V k, rfl, ?_, ?_⟩
      · rw [← h0]
        by_cases h2 : k = 0 <;> simp [Addr.add, h2]
      · rw [show ((List.range l).map g).getD k [] = g k by simp [List.getD, hk]]
        exact (hg k hk).1
    · obtain ⟨k, hk, rfl⟩ := List.mem_map.1 hx
      exact (hg k (List.mem_range.1 hk)).2
def FormulaArg (W : World) (v : Value) : Prop := ∃ (vars : Int) (a : Option Addr) (len cap : Nat) (xss : List (List Int)), v = .agg #[.int .i64 vars, .slice a len cap] ∧ (Lit.int .i64 vars).wf = true ∧ Rows2 W a len xss ∧ FitsR xss ∧ len ≤ cap ∧ cap ≤ maxLen ∧ (a = none → cap = 0)
theorem open_formula {P : Program} {H : Type} {enc : TypeId × Value → H} {w : World} {base b0 : Nat} {sp : Nat → Bool} {held : Bool} {r : Reach} {t e q i : TypeId} {v : Value} {d : DataW H} {pl : List MemPlace} {f0 f1 : Field}
    (hs : P.underlying t = some (.struct #[f0, f1])) (hq : P.underlying q = some (.slice e)) (he : P.underlying e = some (.slice i)) (hi : P.underlying i = some (.int .i64)) (hce : P.cellsOf e = 1) (hci : P.cellsOf i = 1)
    (hone : (oneCellFields P #[f0, f1] && decide (f0.type = i) && decide (f1.type = q)) = true) (hC : P.cellsOf t = 2)
    (hv : Value.okWide P w r b0 t v) (h : DataW.Trod enc P w base sp held t v d pl) : FormulaArg w v := by
  simp only [Bool.and_eq_true, decide_eq_true_eq] at hone
  obtain ⟨⟨h1, h2⟩, h3⟩ := hone
  obtain ⟨v0, v1, y0, y1, n, rfl, _, _, k0, k1⟩ := Go.Joins.open_agg2 hs h1 hC hv h
  rw [h2] at k0; rw [h3] at k1
  obtain ⟨a, e0, _, wa⟩ := DataW.trod_int hi k0
  simp at e0; subst e0
  obtain ⟨a1, len, cap, xss, rfl, hr, hf, hl⟩ := rows_of_trod hq he hi hce hci k1
  exact ⟨a, a1, len, cap, xss, rfl, wa, hr, hf, hl⟩
end Go.Proofs.YthgmjboldboclaaDoor
