/- The contract of states' variables of one place. -/
import Derived.Test.YthfcbjfeepindaaStaG
namespace Go.Proofs.Ythfcbjfeepindaa
open Go.RowKit
set_option linter.unusedVariables false
set_option linter.unusedSimpArgs false

/-- The function of the variables of a place, at one state. -/
theorem sta_at1 (o s place : Int) (b1 b2 : Nat) (i : Int) (w : World) (c0 : w.cell? ⟨b1, 0, none⟩ = some (.int .i64 o)) (c1 : w.cell? ⟨b1, 1, none⟩ = some (.int .i64 s)) (c2 : w.cell? ⟨b2, 0, none⟩ = some (.int .i64 place)) :
    Calls Try.prog 112 #[.int .i64 i, .pointer (some ⟨b1, 0, none⟩), .pointer (some ⟨b2, 0, none⟩)] w fun e w' => e = .returned (.tuple #[.int .i64 (nVar o s 3 place i), .bool true]) ∧ Below w.heap.size w w' := by
  go_enter Try.func112, Try.ntmps112
  go_wp2_with (go_at_call 28; refine (num_Var _ _ _ _ _ _).mono ?_; rintro e w' ⟨rfl, hb⟩)
  go_ret2
  exact ⟨rfl, hb⟩
theorem sta_at (o s place : Int) (hok : nOk o s) (w : World) :
    Calls Try.prog 91 #[.agg #[.int .i64 o, .int .i64 s], .int .i64 place] w fun e w' => ∃ v, e = .returned v ∧ OwnInts w' w.heap.size v ((List.range s.toNat).map fun i : Nat => nVar o s 3 place i) ∧ Below w.heap.size w w' := by
  have hs : 0 ≤ s ∧ s ≤ 32 := by unfold nOk at hok; omega
  obtain ⟨m, rfl⟩ : ∃ m : Nat, s = m := ⟨s.toNat, by omega⟩
  have hb1 : Below w.heap.size w ((w.alloc (.cells #[.int .i64 o, .int .i64 m] 23)).alloc (.cells #[.int .i64 place] 3)) := by (repeat (first | (with_reducible exact Below.refl _ _) | (with_reducible assumption) | (with_reducible refine below_alloc ?_ _) | (with_reducible refine below_drew ?_) | (with_reducible refine below_drewN ?_ _) | (with_reducible refine below_step ?_ (by with_reducible assumption))))
  have c0 : ((w.alloc (.cells #[.int .i64 o, .int .i64 m] 23)).alloc (.cells #[.int .i64 place] 3)).cell? ⟨w.heap.size, 0, none⟩ = some (.int .i64 o) := by simp [go_sem]
  have c1 : ((w.alloc (.cells #[.int .i64 o, .int .i64 m] 23)).alloc (.cells #[.int .i64 place] 3)).cell? ⟨w.heap.size, 1, none⟩ = some (.int .i64 m) := by simp [go_sem]
  have c2 : ((w.alloc (.cells #[.int .i64 o, .int .i64 m] 23)).alloc (.cells #[.int .i64 place] 3)).cell? ⟨w.heap.size + 1, 0, none⟩ = some (.int .i64 place) := by simp [go_sem]
  generalize hw1 : (w.alloc (.cells #[.int .i64 o, .int .i64 m] 23)).alloc (.cells #[.int .i64 place] 3) = W1 at *
  have HW1 := Lib.hid hw1; clear hw1
  go_enter Try.func91, Try.ntmps91
  go_wp2_with fail
  rw [HW1.out]
  go_wp2_with fail
  refine (sta_gather_at _ m (fun i : Nat => (nVar o m 3 place i, true)) _ (by omega) ?_).mono ?_
  · intro i wr hi hb
    exact sta_at1 o m place _ _ i wr (cell_later hb c0) (cell_later hb c1) (cell_later hb c2)
  · rintro e w2 (⟨_, v, rfl, hv, hb⟩ | ⟨⟨i, _, h⟩, _⟩)
    · go_wp2_with fail
      go_returns
      refine ⟨v, rfl, ?_, by (repeat (first | (with_reducible exact Below.refl _ _) | (with_reducible assumption) | (with_reducible refine below_alloc ?_ _) | (with_reducible refine below_drew ?_) | (with_reducible refine below_drewN ?_ _) | (with_reducible refine below_step ?_ (by with_reducible assumption))))⟩
      rw [Int.toNat_natCast]
      exact hv.mono hb1.size
    · cases h
end Go.Proofs.Ythfcbjfeepindaa
