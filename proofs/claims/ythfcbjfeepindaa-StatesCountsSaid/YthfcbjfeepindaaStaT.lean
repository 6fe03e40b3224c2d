/- The contract of the function that tells the variable of a state of a row. -/
import Derived.Test.YthfcbjfeepindaaStaA
namespace Go.Proofs.Ythfcbjfeepindaa
open Go.RowKit
set_option linter.unusedVariables false
set_option linter.unusedSimpArgs false

theorem sta_tru1 (o s : Int) (b1 b2 b off : Nat) (rl rc : Nat) (x : Int) (i : Nat) (hi : i < rl) (w : World) (c0 : w.cell? ⟨b1, 0, none⟩ = some (.int .i64 o)) (c1 : w.cell? ⟨b1, 1, none⟩ = some (.int .i64 s))
    (c2 : w.cell? ⟨b2, 0, none⟩ = some (.slice (some ⟨b, off, none⟩) rl rc)) (c3 : w.cell? ⟨b, off + i, none⟩ = some (.int .i64 x)) :
    Calls Try.prog 93 #[.int .i64 i, .pointer (some ⟨b1, 0, none⟩), .pointer (some ⟨b2, 0, none⟩)] w fun e w' => e = .returned (.tuple #[.int .i64 (nVar o s 3 i x), .bool (nVar o s 3 i x != 0)]) ∧ Below w.heap.size w w' := by
  have hi2 : (i : Int) < rl := by omega
  go_enter Try.func93, Try.ntmps93
  go_wp2_with fail
  go_region_held3 (fun wx => Below w.heap.size w wx ∧ wx.cell? ⟨b1, 0, none⟩ = some (.int .i64 o) ∧ wx.cell? ⟨b1, 1, none⟩ = some (.int .i64 s) ∧ wx.cell? ⟨b2, 0, none⟩ = some (.slice (some ⟨b, off, none⟩) rl rc) ∧ wx.cell? ⟨b, off + i, none⟩ = some (.int .i64 x)) ((refine ⟨?_, ?_, ?_, ?_, ?_⟩; (repeat (first | (with_reducible exact Below.refl _ _) | (with_reducible assumption) | (with_reducible refine below_alloc ?_ _) | (with_reducible refine below_drew ?_) | (with_reducible refine below_drewN ?_ _) | (with_reducible refine below_step ?_ (by with_reducible assumption)))); all_goals (refine cell_later (w := w) ?_ ?_ <;> (repeat (first | (with_reducible exact Below.refl _ _) | (with_reducible assumption) | (with_reducible refine below_alloc ?_ _) | (with_reducible refine below_drew ?_) | (with_reducible refine below_drewN ?_ _) | (with_reducible refine below_step ?_ (by with_reducible assumption))))))) (first | (go_at_call 28; refine (num_Var _ _ _ _ _ _).mono ?_; rintro e w' ⟨rfl, hb⟩))
  all_goals (rename_i hHeld; have hB := hHeld.1; clear hHeld; go_wp2; go_ret2; exact ⟨rfl, hB⟩)
end Go.Proofs.Ythfcbjfeepindaa
