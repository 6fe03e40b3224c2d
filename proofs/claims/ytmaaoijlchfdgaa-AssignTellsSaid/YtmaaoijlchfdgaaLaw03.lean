/- Layer 3: AssignTells. -/
import Derived.Test.YtmaaoijlchfdgaaAsgA
import Derived.Test.YtmaaoijlchfdgaaEqt
namespace Go.Proofs.Ytmaaoijlchfdgaa
open Go.RowKit
set_option linter.unusedVariables false
set_option linter.unusedSimpArgs false

set_option maxRecDepth 100000 in
set_option maxHeartbeats 8000000 in
theorem assignTells_walk (w : World) (a : Option Addr) (len cap : Nat) (l : List Int) (hr : IntRow w a len l) (hf : Fits' l) (hcap : len ≤ cap ∧ cap ≤ maxLen ∧ (a = none → cap = 0)) (a2 : Option Addr) (len2 cap2 : Nat) (c : List Int) (hr2 : IntRow w a2 len2 c) (hf2 : Fits' c) (hcap2 : len2 ≤ cap2 ∧ cap2 ≤ maxLen ∧ (a2 = none → cap2 = 0))
    (x y : Int) (wx : (Lit.int .i64 x).wf = true) (wy : (Lit.int .i64 y).wf = true) :
    Calls Try.prog 3 #[.slice a len cap, .slice a2 len2 cap2, .agg #[.int .i64 x, .int .i64 y]] w fun e w' => e = .returned (.bool true) ∧ Below w.heap.size w w' := by
  have hlc := hcap.1
  clear wx wy hcap hcap2
  have hb1 : Below w.heap.size w (w.alloc (.cells #[.int .i64 x, .int .i64 y] 23)) := by (repeat (first | (with_reducible exact Below.refl _ _) | (with_reducible assumption) | (with_reducible refine below_alloc ?_ _) | (with_reducible refine below_drew ?_) | (with_reducible refine below_drewN ?_ _) | (with_reducible refine below_step ?_ (by with_reducible assumption))))
  have HR := Lib.hid (hr.later hb1); have HR2 := Lib.hid (hr2.later hb1)
  have HF := Lib.hid hf; have HF2 := Lib.hid hf2
  have HLC := Lib.hid hlc
  have hs1 := Blk.made w #[.int .i64 x, .int .i64 y] 23
  generalize hw1 : w.alloc (.cells #[.int .i64 x, .int .i64 y] 23) = W1 at *
  have HW1 := Lib.hid hw1; clear hw1
  have c0 := hs1.cell 0; have c1 := hs1.cell 1
  simp at c0 c1
  have d5 : decide (200 < (len : Int)) = decide (200 < len) := by rw [Bool.eq_iff_iff]; simp; omega
  have d6 : decide (200 < (len2 : Int)) = decide (200 < len2) := by rw [Bool.eq_iff_iff]; simp; omega
  clear hs1 hr hr2 hf hf2 hlc
  by_cases h1 : 200 < len
  · rw [decide_eq_true h1] at d5
    clear h1 d6
    go_enter Try.func3, Try.ntmps3
    go_wp2_with (go_at_call 7; refine (law03_awake _).mono ?_; rintro e w' ⟨rfl, hbAw⟩)
    go_returns
    exact ⟨rfl, by (repeat (first | (with_reducible exact Below.refl _ _) | (with_reducible assumption) | (with_reducible refine below_alloc ?_ _) | (with_reducible refine below_drew ?_) | (with_reducible refine below_drewN ?_ _) | (with_reducible refine below_step ?_ (by with_reducible assumption))))⟩
  · rw [decide_eq_false h1] at d5
    by_cases h2 : 200 < len2
    · rw [decide_eq_true h2] at d6
      clear h1 h2
      go_enter Try.func3, Try.ntmps3
      go_wp2_with (go_at_call 7; refine (law03_awake _).mono ?_; rintro e w' ⟨rfl, hbAw⟩)
      go_returns
      exact ⟨rfl, by (repeat (first | (with_reducible exact Below.refl _ _) | (with_reducible assumption) | (with_reducible refine below_alloc ?_ _) | (with_reducible refine below_drew ?_) | (with_reducible refine below_drewN ?_ _) | (with_reducible refine below_step ?_ (by with_reducible assumption))))⟩
    · rw [decide_eq_false h2] at d6
      have HL1 : Hid (len ≤ 1000000) := Lib.hid (by omega)
      have HL2 : Hid (len2 ≤ 1000000) := Lib.hid (by omega)
      clear h1 h2
      go_enter Try.func3, Try.ntmps3
      go_wp2_with fail
      rw [HW1.out]
      refine (asg_Unit _ _ _ l _ _ _ c _ HR.out HR2.out HL1.out HL2.out HF.out HF2.out).mono ?_
      rintro e w2 ⟨rfl, hb2⟩
      go_wp2_with fail
      refine (ref_Unit03 _ _ _ l _ _ _ c _ (HR.out.later hb2) (HR2.out.later hb2) HL2.out).mono ?_
      rintro e w3 ⟨rfl, hb3⟩
      have hB3 := below_step hb2 hb3
      clear hb2 hb3
      have e0 := cell_later hB3 c0; have e1 := cell_later hB3 c1
      have HR3 := Lib.hid (HR.out.later hB3); have HR23 := Lib.hid (HR2.out.later hB3)
      have hBw3 := below_step hb1 hB3
      obtain ⟨h, hh⟩ : ∃ h, aN l c 1 = h := ⟨_, rfl⟩
      obtain ⟨g, hg⟩ : ∃ h, aN l c (-1) = h := ⟨_, rfl⟩
      obtain ⟨o, ho⟩ : ∃ h, aN l c 0 = h := ⟨_, rfl⟩
      have HC : Hid (cntV l c = .agg #[.int .i64 h, .int .i64 g, .int .i64 o]) := Lib.hid (by unfold cntV cntC; rw [hh, hg, ho])
      clear c0 c1 hB3 hb1 hh hg ho
      go_wp2_with fail
      go_region_held3 (fun wx => Below w3.heap.size w3 wx ∧ wx.cell? ⟨w.heap.size, 0, none⟩ = some (.int .i64 x) ∧ wx.cell? ⟨w.heap.size, 1, none⟩ = some (.int .i64 y)) ((refine ⟨?_, ?_, ?_⟩; (repeat (first | (with_reducible exact Below.refl _ _) | (with_reducible assumption) | (with_reducible refine below_alloc ?_ _) | (with_reducible refine below_drew ?_) | (with_reducible refine below_drewN ?_ _) | (with_reducible refine below_step ?_ (by with_reducible assumption)))); all_goals (first | (refine cell_later (w := w3) ?_ e0; (repeat (first | (with_reducible exact Below.refl _ _) | (with_reducible assumption) | (with_reducible refine below_alloc ?_ _) | (with_reducible refine below_drew ?_) | (with_reducible refine below_drewN ?_ _) | (with_reducible refine below_step ?_ (by with_reducible assumption)))); done) | (refine cell_later (w := w3) ?_ e1; (repeat (first | (with_reducible exact Below.refl _ _) | (with_reducible assumption) | (with_reducible refine below_alloc ?_ _) | (with_reducible refine below_drew ?_) | (with_reducible refine below_drewN ?_ _) | (with_reducible refine below_step ?_ (by with_reducible assumption)))); done))))
        (first | (go_at_call 10; refine (asg_Check _ _ _ l _ _ (HR3.out.later (by (repeat (first | (with_reducible exact Below.refl _ _) | (with_reducible assumption) | (with_reducible refine below_alloc ?_ _) | (with_reducible refine below_drew ?_) | (with_reducible refine below_drewN ?_ _) | (with_reducible refine below_step ?_ (by with_reducible assumption)))))) HL1.out).mono ?_; rintro e w' ⟨rfl, hbA⟩) | (go_at_call 11; refine (ref_Check03 _ _ _ l _ _ (HR3.out.later (by (repeat (first | (with_reducible exact Below.refl _ _) | (with_reducible assumption) | (with_reducible refine below_alloc ?_ _) | (with_reducible refine below_drew ?_) | (with_reducible refine below_drewN ?_ _) | (with_reducible refine below_step ?_ (by with_reducible assumption)))))) HLC.out).mono ?_; rintro e w' ⟨rfl, hbB⟩) | (go_at_call 12; refine (asg_Value _ _ _ l _ _ (HR3.out.later (by (repeat (first | (with_reducible exact Below.refl _ _) | (with_reducible assumption) | (with_reducible refine below_alloc ?_ _) | (with_reducible refine below_drew ?_) | (with_reducible refine below_drewN ?_ _) | (with_reducible refine below_step ?_ (by with_reducible assumption))))))).mono ?_; rintro e w' ⟨rfl, rfl⟩) | (go_at_call 13; refine (ref_Value03 _ _ _ l _ _ (HR3.out.later (by (repeat (first | (with_reducible exact Below.refl _ _) | (with_reducible assumption) | (with_reducible refine below_alloc ?_ _) | (with_reducible refine below_drew ?_) | (with_reducible refine below_drewN ?_ _) | (with_reducible refine below_step ?_ (by with_reducible assumption))))))).mono ?_; rintro e w' ⟨rfl, rfl⟩) | (go_at_call 14; refine (asg_Clause _ _ _ l _ _ _ c _ (HR3.out.later (by (repeat (first | (with_reducible exact Below.refl _ _) | (with_reducible assumption) | (with_reducible refine below_alloc ?_ _) | (with_reducible refine below_drew ?_) | (with_reducible refine below_drewN ?_ _) | (with_reducible refine below_step ?_ (by with_reducible assumption)))))) (HR23.out.later (by (repeat (first | (with_reducible exact Below.refl _ _) | (with_reducible assumption) | (with_reducible refine below_alloc ?_ _) | (with_reducible refine below_drew ?_) | (with_reducible refine below_drewN ?_ _) | (with_reducible refine below_step ?_ (by with_reducible assumption)))))) HL1.out HL2.out HF.out HF2.out).mono ?_; rintro e w' ⟨rfl, hbC⟩) | (go_at_call 15; refine (ref_Clause03 _ _ _ l _ _ _ c _ (HR3.out.later (by (repeat (first | (with_reducible exact Below.refl _ _) | (with_reducible assumption) | (with_reducible refine below_alloc ?_ _) | (with_reducible refine below_drew ?_) | (with_reducible refine below_drewN ?_ _) | (with_reducible refine below_step ?_ (by with_reducible assumption)))))) (HR23.out.later (by (repeat (first | (with_reducible exact Below.refl _ _) | (with_reducible assumption) | (with_reducible refine below_alloc ?_ _) | (with_reducible refine below_drew ?_) | (with_reducible refine below_drewN ?_ _) | (with_reducible refine below_step ?_ (by with_reducible assumption))))))).mono ?_; rintro e w' ⟨rfl, rfl⟩) | (go_at_call 16; refine (asg_Count _ _ _ l _ _ _ c _ (HR3.out.later (by (repeat (first | (with_reducible exact Below.refl _ _) | (with_reducible assumption) | (with_reducible refine below_alloc ?_ _) | (with_reducible refine below_drew ?_) | (with_reducible refine below_drewN ?_ _) | (with_reducible refine below_step ?_ (by with_reducible assumption)))))) (HR23.out.later (by (repeat (first | (with_reducible exact Below.refl _ _) | (with_reducible assumption) | (with_reducible refine below_alloc ?_ _) | (with_reducible refine below_drew ?_) | (with_reducible refine below_drewN ?_ _) | (with_reducible refine below_step ?_ (by with_reducible assumption)))))) HL1.out HL2.out HF.out HF2.out).mono ?_; rintro e w' ⟨rfl, hbD⟩; rw [HC.out]) | (go_at_call 17; refine (ref_Count03 _ _ _ l _ _ _ c _ (HR3.out.later (by (repeat (first | (with_reducible exact Below.refl _ _) | (with_reducible assumption) | (with_reducible refine below_alloc ?_ _) | (with_reducible refine below_drew ?_) | (with_reducible refine below_drewN ?_ _) | (with_reducible refine below_step ?_ (by with_reducible assumption)))))) (HR23.out.later (by (repeat (first | (with_reducible exact Below.refl _ _) | (with_reducible assumption) | (with_reducible refine below_alloc ?_ _) | (with_reducible refine below_drew ?_) | (with_reducible refine below_drewN ?_ _) | (with_reducible refine below_step ?_ (by with_reducible assumption)))))) HL2.out).mono ?_; rintro e w' ⟨rfl, hbE⟩; rw [HC.out]) | (go_at_call 7; refine (law03_awake _).mono ?_; rintro e w' ⟨rfl, hbAw⟩))
      all_goals (go_wp2; go_returns; exact ⟨rfl, by (repeat (first | (with_reducible exact Below.refl _ _) | (with_reducible assumption) | (with_reducible refine below_alloc ?_ _) | (with_reducible refine below_drew ?_) | (with_reducible refine below_drewN ?_ _) | (with_reducible refine below_step ?_ (by with_reducible assumption))))⟩)
end Go.Proofs.Ytmaaoijlchfdgaa
