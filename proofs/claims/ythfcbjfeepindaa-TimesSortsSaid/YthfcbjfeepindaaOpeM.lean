/- The contract of oper.may. -/
import Derived.Test.YthfcbjfeepindaaOpe
namespace Go.Proofs.Ythfcbjfeepindaa
open Go.RowKit
set_option linter.unusedVariables false
set_option linter.unusedSimpArgs false

/-- Is a number within bounds? -/
def wIn (n lo hi : Int) : Bool := decide (lo ≤ n ∧ n ≤ hi)
theorem ope_within2 (n lo hi : Int) (w : World) : Calls Try.prog 111 #[.int .i64 n, .int .i64 lo, .int .i64 hi] w fun e w' => e = .returned (.bool (wIn n lo hi)) ∧ w = w' := ope_within n lo hi w

set_option maxHeartbeats 4000000 in
theorem ope_may (x : Op5) (w : World) : Calls Try.prog 87 #[opV x] w fun e w' => e = .returned (.int .i64 (oMay x)) ∧ Below w.heap.size w w' := by
  obtain ⟨p, k, s, e, r⟩ := x
  unfold opV opC
  dsimp only
  by_cases h1 : 1 ≤ p ∧ p ≤ 1000
  rotate_left
  · have e1 : oMay ⟨p, k, s, e, r⟩ = 2 := by unfold oMay; rw [if_pos (Or.inl h1)]
    have d1 : wIn p 1 1000 = false := decide_eq_false h1
    rw [e1]; clear e1 h1
    go_enter Try.func87, Try.ntmps87
    go_wp2_with (go_at_call 111; refine (ope_within2 _ _ _ _).mono ?_; rintro e w' ⟨rfl, rfl⟩)
    go_returns
    exact ⟨rfl, by (repeat (first | (with_reducible exact Below.refl _ _) | (with_reducible assumption) | (with_reducible refine below_alloc ?_ _) | (with_reducible refine below_drew ?_) | (with_reducible refine below_drewN ?_ _) | (with_reducible refine below_step ?_ (by with_reducible assumption))))⟩
  have d1 : wIn p 1 1000 = true := decide_eq_true h1
  by_cases h2 : 0 ≤ s ∧ s ≤ 9999
  rotate_left
  · have e1 : oMay ⟨p, k, s, e, r⟩ = 2 := by unfold oMay; rw [if_pos (Or.inr h2)]
    have d2 : wIn s 0 9999 = false := decide_eq_false h2
    rw [e1]; clear e1 h1 h2
    go_enter Try.func87, Try.ntmps87
    go_wp2_with (go_at_call 111; refine (ope_within2 _ _ _ _).mono ?_; rintro e w' ⟨rfl, rfl⟩)
    go_returns
    exact ⟨rfl, by (repeat (first | (with_reducible exact Below.refl _ _) | (with_reducible assumption) | (with_reducible refine below_alloc ?_ _) | (with_reducible refine below_drew ?_) | (with_reducible refine below_drewN ?_ _) | (with_reducible refine below_step ?_ (by with_reducible assumption))))⟩
  have d2 : wIn s 0 9999 = true := decide_eq_true h2
  have h12 : ¬ (¬ (1 ≤ p ∧ p ≤ 1000) ∨ ¬ (0 ≤ s ∧ s ≤ 9999)) := by omega
  by_cases h3 : 0 ≤ k ∧ k ≤ 63
  rotate_left
  · have e1 : oMay ⟨p, k, s, e, r⟩ = 31 := by unfold oMay; rw [if_neg h12, if_pos h3]
    have d3 : wIn k 0 63 = false := decide_eq_false h3
    rw [e1]; clear e1 h1 h2 h3 h12
    go_enter Try.func87, Try.ntmps87
    go_wp2_with (go_at_call 111; refine (ope_within2 _ _ _ _).mono ?_; rintro e w' ⟨rfl, rfl⟩)
    go_returns
    exact ⟨rfl, by (repeat (first | (with_reducible exact Below.refl _ _) | (with_reducible assumption) | (with_reducible refine below_alloc ?_ _) | (with_reducible refine below_drew ?_) | (with_reducible refine below_drewN ?_ _) | (with_reducible refine below_step ?_ (by with_reducible assumption))))⟩
  have d3 : wIn k 0 63 = true := decide_eq_true h3
  have h33 : ¬ ¬ (0 ≤ k ∧ k ≤ 63) := by omega
  by_cases h4 : e = -1 ∧ r = -1
  · have e1 : oMay ⟨p, k, s, e, r⟩ = 0 := by unfold oMay; rw [if_neg h12, if_neg h33, if_pos h4]
    obtain ⟨rfl, rfl⟩ := h4
    rw [e1]; clear e1 h1 h2 h3 h12 h33
    go_enter Try.func87, Try.ntmps87
    go_wp2_with (go_at_call 111; refine (ope_within2 _ _ _ _).mono ?_; rintro e w' ⟨rfl, rfl⟩)
    go_returns
    exact ⟨rfl, by (repeat (first | (with_reducible exact Below.refl _ _) | (with_reducible assumption) | (with_reducible refine below_alloc ?_ _) | (with_reducible refine below_drew ?_) | (with_reducible refine below_drewN ?_ _) | (with_reducible refine below_step ?_ (by with_reducible assumption))))⟩
  have hs1 := h2.1; have hs2 := h2.2
  by_cases h5 : s + 1 ≤ e ∧ e ≤ 9999
  rotate_left
  · have e1 : oMay ⟨p, k, s, e, r⟩ = 7 := by unfold oMay; rw [if_neg h12, if_neg h33, if_neg h4, if_pos (Or.inl h5)]
    have d5 : wIn e (s + 1) 9999 = false := decide_eq_false h5
    rw [e1]; clear e1 h1 h2 h3 h12 h33 h5
    by_cases he : e = -1
    · have hr : r ≠ -1 := fun h => h4 ⟨he, h⟩
      subst he
      have d6 : (r == -1) = false := by simpa using hr
      clear h4 hr
      go_enter Try.func87, Try.ntmps87
      go_wp2_with (go_at_call 111; refine (ope_within2 _ _ _ _).mono ?_; rintro e w' ⟨rfl, rfl⟩)
      go_returns
      exact ⟨rfl, by (repeat (first | (with_reducible exact Below.refl _ _) | (with_reducible assumption) | (with_reducible refine below_alloc ?_ _) | (with_reducible refine below_drew ?_) | (with_reducible refine below_drewN ?_ _) | (with_reducible refine below_step ?_ (by with_reducible assumption))))⟩
    · have d6 : (e == -1) = false := by simpa using he
      clear h4 he
      go_enter Try.func87, Try.ntmps87
      go_wp2_with (go_at_call 111; refine (ope_within2 _ _ _ _).mono ?_; rintro e w' ⟨rfl, rfl⟩)
      go_returns
      exact ⟨rfl, by (repeat (first | (with_reducible exact Below.refl _ _) | (with_reducible assumption) | (with_reducible refine below_alloc ?_ _) | (with_reducible refine below_drew ?_) | (with_reducible refine below_drewN ?_ _) | (with_reducible refine below_step ?_ (by with_reducible assumption))))⟩
  have d5 : wIn e (s + 1) 9999 = true := decide_eq_true h5
  have he : (e == -1) = false := by simp; omega
  by_cases h6 : 0 ≤ r ∧ r ≤ 1000000
  rotate_left
  · have e1 : oMay ⟨p, k, s, e, r⟩ = 7 := by unfold oMay; rw [if_neg h12, if_neg h33, if_neg h4, if_pos (Or.inr h6)]
    have d6 : wIn r 0 1000000 = false := decide_eq_false h6
    rw [e1]; clear e1 h1 h2 h3 h12 h33 h5 h6 h4
    go_enter Try.func87, Try.ntmps87
    go_wp2_with (go_at_call 111; refine (ope_within2 _ _ _ _).mono ?_; rintro e w' ⟨rfl, rfl⟩)
    go_returns
    exact ⟨rfl, by (repeat (first | (with_reducible exact Below.refl _ _) | (with_reducible assumption) | (with_reducible refine below_alloc ?_ _) | (with_reducible refine below_drew ?_) | (with_reducible refine below_drewN ?_ _) | (with_reducible refine below_step ?_ (by with_reducible assumption))))⟩
  · have e1 : oMay ⟨p, k, s, e, r⟩ = 0 := by unfold oMay; rw [if_neg h12, if_neg h33, if_neg h4, if_neg (fun h => h.elim (fun h => h h5) (fun h => h h6))]
    have d6 : wIn r 0 1000000 = true := decide_eq_true h6
    rw [e1]; clear e1 h1 h2 h3 h12 h33 h5 h6 h4
    go_enter Try.func87, Try.ntmps87
    go_wp2_with (go_at_call 111; refine (ope_within2 _ _ _ _).mono ?_; rintro e w' ⟨rfl, rfl⟩)
    go_returns
    exact ⟨rfl, by (repeat (first | (with_reducible exact Below.refl _ _) | (with_reducible assumption) | (with_reducible refine below_alloc ?_ _) | (with_reducible refine below_drew ?_) | (with_reducible refine below_drewN ?_ _) | (with_reducible refine below_step ?_ (by with_reducible assumption))))⟩
end Go.Proofs.Ythfcbjfeepindaa
