import Derived.Test.YtcanlckenjndbaaMgAO
import Derived.Test.YtcanlckenjndbaaMgAL
import Derived.Test.YtcanlckenjndbaaMgAH
import Derived.Test.YtcanlckenjndbaaMgAI
import Derived.Test.YtcanlckenjndbaaMgAN
namespace Go.Proofs.Ytcanlckenjndbaa
open Go.RowKit
set_option linter.unusedVariables false
set_option linter.unusedSimpArgs false
end Go.Proofs.Ytcanlckenjndbaa
namespace Go.Proofs.Ytcanlckenjndbaa
open Go.RowKit
set_option linter.unusedVariables false
set_option linter.unusedSimpArgs false
theorem pf_LVar (x : Int) : PF Try.prog 57 [lt (.int .i64 x)] fun r H' => r = lt (.int .i64 (lvar x)) ∧ H' = [] :=
  PF_of_walk ⟨_, Try.func57, by kernel_rfl, rfl⟩ fun G w vs hi hr => by
    obtain ⟨u, us, rfl, h1, hr⟩ := hr.uncons
    rw [hr.unnil, h1.lit_inv]
    exact (lit_Var x w).mono fun e w' h => ⟨h.1, h.2 ▸ Below.refl _ _⟩
theorem pf_LIndex (x : Int) : PF Try.prog 97 [lt (.int .i64 x)] fun r H' => r = lt (.int .i64 (lindex x)) ∧ H' = [] :=
  PF_of_walk ⟨_, Try.func97, by kernel_rfl, rfl⟩ fun G w vs hi hr => by
    obtain ⟨u, us, rfl, h1, hr⟩ := hr.uncons
    rw [hr.unnil, h1.lit_inv]
    exact (lit_Index x w).mono fun e w' h => ⟨h.1, h.2 ▸ Below.refl _ _⟩
theorem pf_LMost (xs : List Int) (hl : xs.length ≤ 1000000) : PF Try.prog 76 [.iv (iInts xs)] fun r H' => r = lt (.int .i64 (lmost xs)) ∧ H' = [] :=
  PF_of_walk ⟨_, Try.func76, by kernel_rfl, rfl⟩ fun G w vs hi hr => by
    obtain ⟨u, us, rfl, h1, hr⟩ := hr.uncons
    rw [hr.unnil]
    cases h1 with
    | iv _ _ h1 =>
      obtain ⟨a, ca, rfl, k1, k2, h4⟩ := ints_row hi.fz (by unfold maxLen; omega) h1
      exact (lit_Most a _ ca xs w h4).mono fun e w' h => ⟨h.1, h.2 ▸ Below.refl _ _⟩
theorem pf_cTautG (xs : List Int) (hl : xs.length ≤ 100000) : PF Try.prog 58 [.iv (iInts xs)] fun r H' => r = lt (.bool (cTaut xs)) ∧ H' = [] :=
  PF_of_walk ⟨_, Try.func58, by kernel_rfl, rfl⟩ fun G w vs hi hr => by
    obtain ⟨u, us, rfl, h1, hr⟩ := hr.uncons
    rw [hr.unnil]
    cases h1 with
    | iv _ _ h1 =>
      obtain ⟨a, ca, rfl, k1, k2, h4⟩ := ints_row hi.fz (by unfold maxLen; omega) h1
      exact cla_Taut a _ ca xs w h4 hl
theorem pf_aClause (l c : List Int) (hl : l.length ≤ 1000000) (hc : c.length ≤ 1000000) (hf : Fits' l) (hf2 : Fits' c) : PF Try.prog 65 [.iv (iInts l), .iv (iInts c)] fun r H' => r = lt (.int .i64 (aCl l c)) ∧ H' = [] :=
  PF_of_walk ⟨_, Try.func65, by kernel_rfl, rfl⟩ fun G w vs hi hr => by
    obtain ⟨u, us, rfl, h1, hr⟩ := hr.uncons
    obtain ⟨u2, us, rfl, h3, hr⟩ := hr.uncons
    rw [hr.unnil]
    cases h1 with
    | iv _ _ h1 =>
      cases h3 with
      | iv _ _ h3 =>
        obtain ⟨a, ca, rfl, k1, k2, h4⟩ := ints_row hi.fz (by unfold maxLen; omega) h1
        obtain ⟨b, cb, rfl, k3, k4, h5⟩ := ints_row hi.fz (by unfold maxLen; omega) h3
        exact asg_Clause a _ ca l b _ cb c w h4 h5 hl hc hf hf2
end Go.Proofs.Ytcanlckenjndbaa
namespace Go.Proofs.Ytcanlckenjndbaa
set_option linter.unusedVariables false
def opens (l c : List Int) : List Int := c.filter (aIs l 0)
def tabUnit (l c : List Int) : Int := if 0 < aN l c 1 then 0 else if (opens l c).length = 1 then (opens l c).getLastD 0 else 0
theorem opens_snoc (l c : List Int) (x : Int) : opens l (c ++ [x]) = opens l c ++ if aIs l 0 x = true then [x] else [] := by
  unfold opens
  rw [List.filter_append, List.filter_cons, List.filter_nil]
theorem aN_none {l c : List Int} {len : Nat} (hl : c.length = len) (h : ∀ j, j < len → aIs l 1 (c.getD j 0) = false) : aN l c 1 = 0 := by
  unfold aN
  rw [List.length_eq_zero_iff, List.filter_eq_nil_iff]
  intro x hx
  obtain ⟨j, hj, rfl⟩ := List.mem_iff_getElem.1 hx
  have := h j (by omega)
  rw [show c.getD j 0 = c[j] by simp [List.getD, hj]] at this
  simp [this]
theorem aN_some {l c : List Int} {x : Int} (hx : x ∈ c) (h : aIs l 1 x = true) : 0 < aN l c 1 := by
  unfold aN
  exact List.length_pos_of_mem (List.mem_filter.2 ⟨hx, h⟩)
theorem aVal_cases3 (l : List Int) (x : Int) : (aVal l x = 1 ∧ aIs l 1 x = true ∧ aIs l 0 x = false) ∨ (aVal l x = -1 ∧ aIs l 1 x = false ∧ aIs l 0 x = false) ∨ (aVal l x = 0 ∧ aIs l 1 x = false ∧ aIs l 0 x = decide (lvar x ≠ 0)) := by
  unfold aIs aVal
  by_cases h : lvar x = 0
  · simp [h]
  · simp only [h]
    by_cases h1 : lhas l x = true
    · simp [h1, h]
    · by_cases h2 : lhas l (-x) = true
      · simp [h1, h2, h]
      · simp [h1, h2, h]
theorem tabUnit_eq (l c : List Int) : tabUnit l c = if aUnitOk l c = true then aUnit l c else 0 := by
  unfold tabUnit aUnit aUnitOk
  by_cases h1 : 0 < aN l c 1
  · rw [if_pos h1, if_neg (by rw [decide_eq_true_eq]; omega)]
  · rw [if_neg h1]
    by_cases h2 : (opens l c).length = 1
    · have h3 : decide (aN l c 1 = 0 ∧ aN l c 0 = 1) = true := by rw [decide_eq_true_eq]; exact ⟨by omega, h2⟩
      rw [if_pos h2, h3]
      simp only [if_true]
      obtain ⟨u, hu⟩ := List.length_eq_one_iff.1 h2
      have hu' : c.filter (aIs l 0) = [u] := hu
      rw [hu, hu']; rfl
    · have h3 : ¬ decide (aN l c 1 = 0 ∧ aN l c 0 = 1) = true := by rw [decide_eq_true_eq]; intro h; exact h2 h.2
      rw [if_neg h2, if_neg h3]
theorem tabUnit_ne {l c : List Int} (h : aUnitOk l c = true) : tabUnit l c ≠ 0 := by
  rw [tabUnit_eq, if_pos h]
  obtain ⟨u, _, h1, _, h2, _⟩ := aUnit_is h
  rw [h1]; exact (lvar_range h2).2.2
theorem tabUnit_zero {l c : List Int} (h : aUnitOk l c = false) : tabUnit l c = 0 := by rw [tabUnit_eq, if_neg (by rw [h]; decide)]
end Go.Proofs.Ytcanlckenjndbaa
