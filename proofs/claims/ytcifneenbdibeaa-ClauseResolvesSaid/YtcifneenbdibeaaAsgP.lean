/- Assignments, plainly: no Go, no program. -/
import Derived.Test.YtcifneenbdibeaaLitP
namespace Go.Proofs.Ytcifneenbdibeaa
set_option linter.unusedVariables false

def aVal (l : List Int) (x : Int) : Int := if lvar x = 0 then 0 else if lhas l x = true then 1 else if lhas l (-x) = true then -1 else 0
def aIs (l : List Int) (v : Int) (x : Int) : Bool := decide (lvar x ≠ 0 ∧ aVal l x = v)
/-- How many literals have the value v. -/
def aN (l c : List Int) (v : Int) : Nat := (c.filter (aIs l v)).length
def aCl (l c : List Int) : Int := if 0 < aN l c 1 then 1 else if 0 < aN l c 0 then 0 else -1
def aUnitOk (l c : List Int) : Bool := decide (aN l c 1 = 0 ∧ aN l c 0 = 1)
def aUnit (l c : List Int) : Int := if aUnitOk l c = true then (c.filter (aIs l 0)).headD 0 else 0
def aDup (l : List Int) : Prop := ¬ (l.map lvar).Nodup
instance (l : List Int) : Decidable (aDup l) := by unfold aDup; infer_instance
def aCheck (l : List Int) (vars : Int) : Int := if vars < 0 ∨ 100000 < vars then 2 else if (l.all fun x => lcheck x vars == 0) = false then 10 else if aDup l then 21 else 0
def aFull (l : List Int) (vars : Int) : Bool := decide ((l.length : Int) = vars ∧ aCheck l vars = 0)
def aModel (l : List Int) (vars : Int) : List Bool := if vars < 0 ∨ 100000 < vars then [] else (List.range vars.toNat).map fun i : Nat => lhas l ((i : Int) + 1)
def aFrom (m : List Bool) : List Int := if 100000 < m.length then [] else (List.range m.length).map fun i : Nat => lmake ((i : Int) + 1) (m.getD i false)

theorem lvar_neg (x : Int) : lvar (-x) = lvar x := by unfold lvar; repeat' split <;> omega
theorem aVal_cases (l : List Int) (x : Int) : (lvar x = 0 ∧ aVal l x = 0) ∨ (lvar x ≠ 0 ∧ ((lhas l x = true ∧ aVal l x = 1) ∨ (lhas l x = false ∧ lhas l (-x) = true ∧ aVal l x = -1) ∨ (lhas l x = false ∧ lhas l (-x) = false ∧ aVal l x = 0))) := by
  unfold aVal
  by_cases h : lvar x = 0
  · left; exact ⟨h, by rw [if_pos h]⟩
  · right
    refine ⟨h, ?_⟩
    rw [if_neg h]
    cases h1 : lhas l x <;> cases h2 : lhas l (-x) <;> simp
theorem aVal_in (l : List Int) (x : Int) : aVal l x = 1 ∨ aVal l x = -1 ∨ aVal l x = 0 := by
  rcases aVal_cases l x with h | ⟨_, h | h | h⟩ <;> omega
theorem aN_nil (l : List Int) (v : Int) : aN l [] v = 0 := rfl
theorem aN_snoc (l c : List Int) (x v : Int) : aN l (c ++ [x]) v = aN l c v + if aIs l v x = true then 1 else 0 := by
  unfold aN
  rw [List.filter_append, List.length_append]
  by_cases h : aIs l v x = true
  · rw [if_pos h]; simp [h]
  · rw [if_neg h]; simp [h]
theorem aN_cons (l c : List Int) (x v : Int) : aN l (x :: c) v = aN l c v + if aIs l v x = true then 1 else 0 := by
  unfold aN
  by_cases h : aIs l v x = true
  · rw [if_pos h]; simp [h]
  · rw [if_neg h]; simp [h]
theorem aN_le (l c : List Int) (v : Int) : aN l c v ≤ c.length := List.length_filter_le _ _
theorem aN_pos (l c : List Int) (v : Int) : 0 < aN l c v ↔ ∃ x ∈ c, aIs l v x = true := by
  unfold aN
  rw [List.length_pos_iff_exists_mem]
  simp only [List.mem_filter]
theorem aIs_iff (l : List Int) (v x : Int) : aIs l v x = true ↔ (lvar x ≠ 0 ∧ aVal l x = v) := by unfold aIs; rw [decide_eq_true_eq]
/-- How many literals there are. -/
def aLit (x : Int) : Bool := decide (lvar x ≠ 0)
def aMany (c : List Int) : Nat := (c.filter aLit).length
theorem aMany_sum (l c : List Int) : aN l c 1 + aN l c (-1) + aN l c 0 = aMany c := by
  induction c with
  | nil => rfl
  | cons x c ih =>
    rw [aN_cons, aN_cons, aN_cons]
    have hm : aMany (x :: c) = aMany c + if aLit x = true then 1 else 0 := by
      unfold aMany
      by_cases h : aLit x = true
      · rw [if_pos h]; simp [h]
      · rw [if_neg h]; simp [h]
    rw [hm]
    rcases aVal_cases l x with ⟨h, h2⟩ | ⟨h, ⟨_, h2⟩ | ⟨_, _, h2⟩ | ⟨_, _, h2⟩⟩
    all_goals
      have e1 : aIs l 1 x = decide (lvar x ≠ 0 ∧ aVal l x = 1) := rfl
      have e2 : aIs l (-1) x = decide (lvar x ≠ 0 ∧ aVal l x = -1) := rfl
      have e3 : aIs l 0 x = decide (lvar x ≠ 0 ∧ aVal l x = 0) := rfl
      have e4 : aLit x = decide (lvar x ≠ 0) := rfl
      rw [h2] at e1 e2 e3
      simp [h] at e1 e2 e3 e4
      rw [e1, e2, e3, e4]
      simp
      try omega
theorem aMany_snoc (c : List Int) (x : Int) : aMany (c ++ [x]) = aMany c + if lvar x ≠ 0 then 1 else 0 := by
  unfold aMany
  rw [List.filter_append, List.length_append]
  by_cases h : lvar x = 0 <;> simp [aLit, h]
/-- The one open literal. -/
theorem aUnit_is {l c : List Int} (h : aUnitOk l c = true) : ∃ u, c.filter (aIs l 0) = [u] ∧ aUnit l c = u ∧ u ∈ c ∧ lvar u ≠ 0 ∧ aVal l u = 0 := by
  have h2 : aN l c 1 = 0 ∧ aN l c 0 = 1 := by unfold aUnitOk at h; exact of_decide_eq_true h
  obtain ⟨u, hu⟩ := List.length_eq_one_iff.1 h2.2
  have hm : u ∈ c.filter (aIs l 0) := by rw [hu]; simp
  rw [List.mem_filter, aIs_iff] at hm
  exact ⟨u, hu, by unfold aUnit; rw [if_pos h, hu]; rfl, hm.1, hm.2.1, hm.2.2⟩
theorem aUnit_at {l c : List Int} (h : aUnitOk l c = true) {x : Int} (hx : x ∈ c) (hv : lvar x ≠ 0) (h0 : aVal l x = 0) : aUnit l c = x := by
  obtain ⟨u, hu, e, _⟩ := aUnit_is h
  have hm : x ∈ c.filter (aIs l 0) := List.mem_filter.2 ⟨hx, (aIs_iff _ _ _).2 ⟨hv, h0⟩⟩
  rw [hu] at hm
  rw [e]; exact (List.mem_singleton.1 hm).symm
theorem aCl_iff (l c : List Int) : (aCl l c = 1 ↔ 0 < aN l c 1) ∧ (aCl l c = -1 ↔ (aN l c 1 = 0 ∧ aN l c 0 = 0)) := by
  unfold aCl
  repeat' split <;> omega
end Go.Proofs.Ytcifneenbdibeaa
