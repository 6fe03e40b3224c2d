/- Slices of operations; the contracts of oper.Ahead, may and Pending. -/
import Derived.Test.YthfcbjfeepindaaLaw32c
import Derived.Test.YthfcbjfeepindaaOpeP
namespace Go.Proofs.Ythfcbjfeepindaa
open Go.RowKit
set_option linter.unusedVariables false
set_option linter.unusedSimpArgs false

def opC (x : Op5) : List Value := [.int .i64 x.p, .int .i64 x.k, .int .i64 x.s, .int .i64 x.e, .int .i64 x.r]
def opV (x : Op5) : Value := .agg (opC x).toArray
/-- The operation at the head of some cells. -/
def OpAt (w : World) (b off : Nat) (x : Op5) : Prop := w.cell? ⟨b, off, none⟩ = some (.int .i64 x.p) ∧ w.cell? ⟨b, off + 1, none⟩ = some (.int .i64 x.k) ∧ w.cell? ⟨b, off + 2, none⟩ = some (.int .i64 x.s) ∧ w.cell? ⟨b, off + 3, none⟩ = some (.int .i64 x.e) ∧ w.cell? ⟨b, off + 4, none⟩ = some (.int .i64 x.r)
theorem OpAt.later {w w' : World} {b off : Nat} {x : Op5} (h : OpAt w b off x) (hb : Below w.heap.size w w') : OpAt w' b off x := ⟨cell_later hb h.1, cell_later hb h.2.1, cell_later hb h.2.2.1, cell_later hb h.2.2.2.1, cell_later hb h.2.2.2.2⟩
/-- The first len operations at a are xs. -/
def OpRow (w : World) (a : Option Addr) (len : Nat) (xs : List Op5) : Prop := xs.length = len ∧ len * 5 ≤ maxLen ∧ (0 < len → ∃ b off, a = some ⟨b, off, none⟩ ∧ ∀ i, i < len → OpAt w b (off + i * 5) (oAt xs i))
theorem OpRow.later {w w' : World} {a : Option Addr} {len : Nat} {xs : List Op5} (h : OpRow w a len xs) (hb : Below w.heap.size w w') : OpRow w' a len xs :=
  ⟨h.1, h.2.1, fun hp => by
    obtain ⟨b, off, ha, hc⟩ := h.2.2 hp
    exact ⟨b, off, ha, fun i hi => (hc i hi).later hb⟩⟩

theorem ope_Ahead (x y : Op5) (w : World) : Calls Try.prog 88 #[opV x, opV y] w fun e w' => e = .returned (.bool (oAhead x y)) ∧ Below w.heap.size w w' := by
  obtain ⟨p, k, s, e, r⟩ := x
  obtain ⟨p', k', s', e', r'⟩ := y
  unfold opV opC oAhead
  dsimp only
  by_cases h1 : 0 ≤ e
  · by_cases h2 : e < s'
    · have e1 : decide (0 ≤ e ∧ e < s') = true := decide_eq_true ⟨h1, h2⟩
      rw [e1]; clear e1
      go_enter Try.func88, Try.ntmps88
      go_wp2_with fail
      go_returns
      exact ⟨rfl, by (repeat (first | (with_reducible exact Below.refl _ _) | (with_reducible assumption) | (with_reducible refine below_alloc ?_ _) | (with_reducible refine below_drew ?_) | (with_reducible refine below_drewN ?_ _) | (with_reducible refine below_step ?_ (by with_reducible assumption))))⟩
    · have e1 : decide (0 ≤ e ∧ e < s') = false := decide_eq_false (fun h => h2 h.2)
      have e2 : decide (e < s') = false := decide_eq_false h2
      rw [e1]; clear e1
      go_enter Try.func88, Try.ntmps88
      go_wp2_with fail
      go_returns
      exact ⟨rfl, by (repeat (first | (with_reducible exact Below.refl _ _) | (with_reducible assumption) | (with_reducible refine below_alloc ?_ _) | (with_reducible refine below_drew ?_) | (with_reducible refine below_drewN ?_ _) | (with_reducible refine below_step ?_ (by with_reducible assumption))))⟩
  · have e1 : decide (0 ≤ e ∧ e < s') = false := decide_eq_false (fun h => h1 h.1)
    have e2 : decide (0 ≤ e) = false := decide_eq_false h1
    rw [e1]; clear e1
    go_enter Try.func88, Try.ntmps88
    go_wp2_with fail
    go_returns
    exact ⟨rfl, by (repeat (first | (with_reducible exact Below.refl _ _) | (with_reducible assumption) | (with_reducible refine below_alloc ?_ _) | (with_reducible refine below_drew ?_) | (with_reducible refine below_drewN ?_ _) | (with_reducible refine below_step ?_ (by with_reducible assumption))))⟩
theorem ope_within (n lo hi : Int) (w : World) : Calls Try.prog 111 #[.int .i64 n, .int .i64 lo, .int .i64 hi] w fun e w' => e = .returned (.bool (decide (lo ≤ n ∧ n ≤ hi))) ∧ w = w' := by
  by_cases h1 : lo ≤ n
  · by_cases h2 : n ≤ hi
    · have e1 : decide (lo ≤ n ∧ n ≤ hi) = true := decide_eq_true ⟨h1, h2⟩
      rw [e1]; clear e1
      go_enter Try.func111, Try.ntmps111
      go_wp2_with fail
      go_returns
      exact ⟨rfl, rfl⟩
    · have e1 : decide (lo ≤ n ∧ n ≤ hi) = false := decide_eq_false (fun h => h2 h.2)
      have e2 : decide (n ≤ hi) = false := decide_eq_false h2
      rw [e1]; clear e1
      go_enter Try.func111, Try.ntmps111
      go_wp2_with fail
      go_returns
      exact ⟨rfl, rfl⟩
  · have e1 : decide (lo ≤ n ∧ n ≤ hi) = false := decide_eq_false (fun h => h1 h.1)
    have e2 : decide (lo ≤ n) = false := decide_eq_false h1
    rw [e1]; clear e1
    go_enter Try.func111, Try.ntmps111
    go_wp2_with fail
    go_returns
    exact ⟨rfl, rfl⟩

end Go.Proofs.Ythfcbjfeepindaa
