/- Layer 36: CountAll is true for every input. -/
import Derived.Test.YthfcbjfeepindaaCntD
import Derived.Test.YthfcbjfeepindaaOpeL
namespace Go.Proofs.Ythfcbjfeepindaa
open Go.RowKit
set_option linter.unusedVariables false
set_option linter.unusedSimpArgs false

set_option maxRecDepth 100000 in
set_option maxHeartbeats 20000000 in
theorem countAll_walk (w : World) (o s : Int) (wo : (Lit.int .i64 o).wf = true) (ws : (Lit.int .i64 s).wf = true) (a : Option Addr) (len cap : Nat) (hS : StructRow w 5 a len cap) :
    Calls Try.prog 18 #[.agg #[.int .i64 o, .int .i64 s], .slice a len cap] w fun e w' => e = .returned (.bool true) ∧ Below w.heap.size w w' := by
  clear wo ws
  have hb1 : Below w.heap.size w (w.alloc (.cells #[.int .i64 o, .int .i64 s] 23)) := by (repeat (first | (with_reducible exact Below.refl _ _) | (with_reducible assumption) | (with_reducible refine below_alloc ?_ _) | (with_reducible refine below_drew ?_) | (with_reducible refine below_drewN ?_ _) | (with_reducible refine below_step ?_ (by with_reducible assumption))))
  by_cases hbig : 70 < len
  · have d1 : decide (70 < (len : Int)) = true := by simp; omega
    have d2 : decide (70 < len) = true := by simpa using hbig
    clear hS hbig
    go_enter Try.func18, Try.ntmps18
    go_wp2_with (go_at_call 68; refine (law36_awake _).mono ?_; rintro e w' ⟨rfl, hbAw⟩)
    go_returns
    exact ⟨rfl, by (repeat (first | (with_reducible exact Below.refl _ _) | (with_reducible assumption) | (with_reducible refine below_alloc ?_ _) | (with_reducible refine below_drew ?_) | (with_reducible refine below_drewN ?_ _) | (with_reducible refine below_step ?_ (by with_reducible assumption))))⟩
  · have d1 : decide (70 < (len : Int)) = false := by simp; omega
    have d2 : decide (70 < len) = false := by simpa using hbig
    obtain ⟨xs, hr⟩ := hS.ops (by omega)
    have HR := Lib.hid (hr.later hb1)
    have hs1 := Blk.made w #[.int .i64 o, .int .i64 s] 23
    generalize hw1 : w.alloc (.cells #[.int .i64 o, .int .i64 s] 23) = W1 at *
    have HW1 := Lib.hid hw1; clear hw1
    have c0 := hs1.cell 0; have c1 := hs1.cell 1
    simp at c0 c1
    clear hs1 hS hbig hr
    go_enter Try.func18, Try.ntmps18
    go_wp2_with fail
    rw [HW1.out]
    go_region_held3 (fun wx => Below W1.heap.size W1 wx ∧ wx.cell? ⟨w.heap.size, 0, none⟩ = some (.int .i64 o) ∧ wx.cell? ⟨w.heap.size, 1, none⟩ = some (.int .i64 s)) ((refine ⟨?_, ?_, ?_⟩; (repeat (first | (with_reducible exact Below.refl _ _) | (with_reducible assumption) | (with_reducible refine below_alloc ?_ _) | (with_reducible refine below_drew ?_) | (with_reducible refine below_drewN ?_ _) | (with_reducible refine below_step ?_ (by with_reducible assumption)))); all_goals (refine cell_later (w := W1) ?_ ?_ <;> (repeat (first | (with_reducible exact Below.refl _ _) | (with_reducible assumption) | (with_reducible refine below_alloc ?_ _) | (with_reducible refine below_drew ?_) | (with_reducible refine below_drewN ?_ _) | (with_reducible refine below_step ?_ (by with_reducible assumption)))))))
      (first | (go_at_call 69; refine (cnt_All _ _ _ _ _ xs _ (HR.out.later (by (repeat (first | (with_reducible exact Below.refl _ _) | (with_reducible assumption) | (with_reducible refine below_alloc ?_ _) | (with_reducible refine below_drew ?_) | (with_reducible refine below_drewN ?_ _) | (with_reducible refine below_step ?_ (by with_reducible assumption))))))).mono ?_; rintro e w' ⟨rfl, hbb⟩) | (go_at_call 70; refine (rcnt_All _ _ _ _ _ xs _ (HR.out.later (by (repeat (first | (with_reducible exact Below.refl _ _) | (with_reducible assumption) | (with_reducible refine below_alloc ?_ _) | (with_reducible refine below_drew ?_) | (with_reducible refine below_drewN ?_ _) | (with_reducible refine below_step ?_ (by with_reducible assumption))))))).mono ?_; rintro e w' ⟨rfl, hbb⟩) | (go_at_call 71; refine (cnt_Fits _ _ _ _ _ xs _ (HR.out.later (by (repeat (first | (with_reducible exact Below.refl _ _) | (with_reducible assumption) | (with_reducible refine below_alloc ?_ _) | (with_reducible refine below_drew ?_) | (with_reducible refine below_drewN ?_ _) | (with_reducible refine below_step ?_ (by with_reducible assumption))))))).mono ?_; rintro e w' ⟨rfl, hbb⟩) | (go_at_call 72; refine (rcnt_Fits _ _ _ _ _ xs _ (HR.out.later (by (repeat (first | (with_reducible exact Below.refl _ _) | (with_reducible assumption) | (with_reducible refine below_alloc ?_ _) | (with_reducible refine below_drew ?_) | (with_reducible refine below_drewN ?_ _) | (with_reducible refine below_step ?_ (by with_reducible assumption))))))).mono ?_; rintro e w' ⟨rfl, hbb⟩) | (go_at_call 68; refine (law36_awake _).mono ?_; rintro e w' ⟨rfl, hbAw⟩))
    all_goals
      rename_i hHeld
      have hBB := hHeld.1
      clear hHeld
      go_wp2
      go_returns
      exact ⟨rfl, by (repeat (first | (with_reducible exact Below.refl _ _) | (with_reducible assumption) | (with_reducible refine below_alloc ?_ _) | (with_reducible refine below_drew ?_) | (with_reducible refine below_drewN ?_ _) | (with_reducible refine below_step ?_ (by with_reducible assumption))))⟩
end Go.Proofs.Ythfcbjfeepindaa
