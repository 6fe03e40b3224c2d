/- Layer 33: TimesTells. -/
import Derived.Test.YthfcbjfeepindaaTimW
import Derived.Test.YthfcbjfeepindaaTimD
import Derived.Test.YthfcbjfeepindaaLiftA
namespace Go.Proofs.Ythfcbjfeepindaa
open Go.RowKit
set_option linter.unusedVariables false
set_option linter.unusedSimpArgs false

set_option maxRecDepth 100000 in
set_option maxHeartbeats 8000000 in
theorem timesTells_walk (w : World) (o s : Int) (wo : (Lit.int .i64 o).wf = true) (ws : (Lit.int .i64 s).wf = true) (a : Option Addr) (len cap : Nat) (hS : StructRow w 2 a len cap) (a2 : Option Addr) (len2 cap2 : Nat) (xs : List Int) (hr2 : IntRow w a2 len2 xs) (hf2 : Fits xs) (hcap2 : len2 ≤ cap2 ∧ cap2 ≤ maxLen ∧ (a2 = none → cap2 = 0)) :
    Calls Try.prog 10 #[.agg #[.int .i64 o, .int .i64 s], .slice a len cap, .slice a2 len2 cap2] w fun e w' => e = .returned (.bool true) ∧ Below w.heap.size w w' := by
  clear wo ws hcap2
  have hb1 : Below w.heap.size w (w.alloc (.cells #[.int .i64 o, .int .i64 s] 23)) := by (repeat (first | (with_reducible exact Below.refl _ _) | (with_reducible assumption) | (with_reducible refine below_alloc ?_ _) | (with_reducible refine below_drew ?_) | (with_reducible refine below_drewN ?_ _) | (with_reducible refine below_step ?_ (by with_reducible assumption))))
  obtain ⟨ps, hpr, hpb⟩ := hS.pairs
  have HR := Lib.hid (hpr.later hb1); have HR2 := Lib.hid (hr2.later hb1)
  have HPB := Lib.hid hpb
  have HXB : Hid (∀ i, i < len2 → -9223372036854775808 ≤ xs.getD i 0 ∧ xs.getD i 0 ≤ 9223372036854775807) := Lib.hid (fun i hi => by
    have hi' : i < xs.length := by rw [hr2.1]; exact hi
    have := hf2 xs[i] (List.getElem_mem hi')
    simpa [List.getD, hi'] using this)
  have hs1 := Blk.made w #[.int .i64 o, .int .i64 s] 23
  generalize hw1 : w.alloc (.cells #[.int .i64 o, .int .i64 s] 23) = W1 at *
  have HW1 := Lib.hid hw1; clear hw1
  have c0 := hs1.cell 0; have c1 := hs1.cell 1
  simp at c0 c1
  clear hs1 hS hpr hpb hr2 hf2
  by_cases hbig : (12 < o ∧ o ≤ 64) ∨ 60 < len ∨ 60 < len2
  · have hd : (decide (12 < o) = true ∧ decide (o ≤ 64) = true) ∨ (((decide (12 < o) = false) ∨ (decide (12 < o) = true ∧ decide (o ≤ 64) = false)) ∧ ((decide (60 < len) = true) ∨ (decide (60 < len) = false ∧ decide (60 < len2) = true))) := by
      simp only [decide_eq_true_eq, decide_eq_false_iff_not]; omega
    clear hbig
    rcases hd with ⟨d1, d2⟩ | ⟨d1 | ⟨d1, d2⟩, d3 | ⟨d3, d4⟩⟩
    all_goals
      have d5 : decide (60 < (len : Int)) = decide (60 < len) := by rw [Bool.eq_iff_iff]; simp; omega
      have d6 : decide (60 < (len2 : Int)) = decide (60 < len2) := by rw [Bool.eq_iff_iff]; simp; omega
      first | rw [d3] at d5 | clear d5
      first | rw [d4] at d6 | clear d6
      go_enter Try.func10, Try.ntmps10
      go_wp2_with (go_at_call 43; refine (law33_awake _).mono ?_; rintro e w' ⟨rfl, hbAw⟩)
      go_returns
      exact ⟨rfl, by rw [HW1.out] at *; (repeat (first | (with_reducible exact Below.refl _ _) | (with_reducible assumption) | (with_reducible refine below_alloc ?_ _) | (with_reducible refine below_drew ?_) | (with_reducible refine below_drewN ?_ _) | (with_reducible refine below_step ?_ (by with_reducible assumption))))⟩
  · have h60 : len ≤ 60 := by omega
    have h602 : len2 ≤ 60 := by omega
    have d0 : (decide (12 < o) = false) ∨ (decide (12 < o) = true ∧ decide (o ≤ 64) = false) := by
      by_cases h : 12 < o
      · exact Or.inr ⟨decide_eq_true h, decide_eq_false (by omega)⟩
      · exact Or.inl (decide_eq_false h)
    have d3 : decide (60 < (len : Int)) = false := by simp; omega
    have d4 : decide (60 < len) = false := by simp; omega
    have d5 : decide (60 < (len2 : Int)) = false := by simp; omega
    have d6 : decide (60 < len2) = false := by simp; omega
    clear hbig
    rcases d0 with d1 | ⟨d1, d2⟩
    all_goals
      go_enter Try.func10, Try.ntmps10
      go_wp2_with fail
      rw [HW1.out]
      refine (tim_Against _ _ _ xs _ _ _ ps _ HR2.out (by omega) HR.out HXB.out HPB.out).mono ?_
      rintro e w2 ⟨rfl, hb2⟩
      have e0 := cell_later hb2 c0; have e1 := cell_later hb2 c1
      go_wp2_with fail
      refine (ref_Against33 _ _ _ xs _ _ _ ps _ (HR2.out.later hb2) (HR.out.later hb2)).mono ?_
      rintro e w3 ⟨rfl, hb3⟩
      have hB3 := below_step hb2 hb3
      clear e0 e1 hb2 hb3
      have e0 := cell_later hB3 c0; have e1 := cell_later hB3 c1
      go_wp2_with fail
      refine (tim_Sort _ _ _ _ ps _ (HR.out.later hB3)).mono ?_
      rintro e w4 ⟨v4, rfl, hv4, hb4⟩
      have hB4 := below_step hB3 hb4
      clear e0 e1
      have e0 := cell_later hB4 c0; have e1 := cell_later hB4 c1
      go_wp2_with fail
      refine (ref_Sort33 _ _ _ _ ps _ (HR.out.later hB4)).mono ?_
      rintro e w5 ⟨v5, rfl, hv5, hb5⟩
      have hB5 := below_step hB4 hb5
      have hv45 := hv4.later hb5
      clear e0 e1 hv4 hb4 hb5 hB3 hB4
      have e0 := cell_later hB5 c0; have e1 := cell_later hB5 c1
      have HR5 := Lib.hid (HR.out.later hB5)
      have hBw5 := below_step hb1 hB5
      clear c0 c1 hB5 hb1
      go_wp2_with fail
      go_region_held3 (fun wx => Below w5.heap.size w5 wx ∧ wx.cell? ⟨w.heap.size, 0, none⟩ = some (.int .i64 o) ∧ wx.cell? ⟨w.heap.size, 1, none⟩ = some (.int .i64 s)) ((refine ⟨?_, ?_, ?_⟩; (repeat (first | (with_reducible exact Below.refl _ _) | (with_reducible assumption) | (with_reducible refine below_alloc ?_ _) | (with_reducible refine below_drew ?_) | (with_reducible refine below_drewN ?_ _) | (with_reducible refine below_step ?_ (by with_reducible assumption)))); all_goals (first | (refine cell_later (w := w5) ?_ e0; (repeat (first | (with_reducible exact Below.refl _ _) | (with_reducible assumption) | (with_reducible refine below_alloc ?_ _) | (with_reducible refine below_drew ?_) | (with_reducible refine below_drewN ?_ _) | (with_reducible refine below_step ?_ (by with_reducible assumption)))); done) | (refine cell_later (w := w5) ?_ e1; (repeat (first | (with_reducible exact Below.refl _ _) | (with_reducible assumption) | (with_reducible refine below_alloc ?_ _) | (with_reducible refine below_drew ?_) | (with_reducible refine below_drewN ?_ _) | (with_reducible refine below_step ?_ (by with_reducible assumption)))); done))))
        (first | (go_at_call 48; refine (tim_Clauses _ _ _ _ _ ps _ (HR5.out.later (by (repeat (first | (with_reducible exact Below.refl _ _) | (with_reducible assumption) | (with_reducible refine below_alloc ?_ _) | (with_reducible refine below_drew ?_) | (with_reducible refine below_drewN ?_ _) | (with_reducible refine below_step ?_ (by with_reducible assumption)))))) (by omega)).mono ?_; rintro e w' ⟨v1, rfl, hA, hbA⟩) | (go_at_call 49; refine (ref_Clauses33 _ _ _ _ _ ps _ (HR5.out.later (by (repeat (first | (with_reducible exact Below.refl _ _) | (with_reducible assumption) | (with_reducible refine below_alloc ?_ _) | (with_reducible refine below_drew ?_) | (with_reducible refine below_drewN ?_ _) | (with_reducible refine below_step ?_ (by with_reducible assumption)))))) (by omega)).mono ?_; rintro e w' ⟨v2, rfl, hB, hbB⟩) | (go_at_call 31; refine (same_RowsV _ _ _ _ _ (hA.later (by (repeat (first | (with_reducible exact Below.refl _ _) | (with_reducible assumption) | (with_reducible refine below_alloc ?_ _) | (with_reducible refine below_drew ?_) | (with_reducible refine below_drewN ?_ _) | (with_reducible refine below_step ?_ (by with_reducible assumption)))))) (hB.later (by (repeat (first | (with_reducible exact Below.refl _ _) | (with_reducible assumption) | (with_reducible refine below_alloc ?_ _) | (with_reducible refine below_drew ?_) | (with_reducible refine below_drewN ?_ _) | (with_reducible refine below_step ?_ (by with_reducible assumption))))))).mono ?_; rintro e w' ⟨rfl, hbE⟩; simp only [decide_true]) | (go_at_call 40; refine (same_IntsV _ _ _ _ _ ((hv45.later (by (repeat (first | (with_reducible exact Below.refl _ _) | (with_reducible assumption) | (with_reducible refine below_alloc ?_ _) | (with_reducible refine below_drew ?_) | (with_reducible refine below_drewN ?_ _) | (with_reducible refine below_step ?_ (by with_reducible assumption)))))).ints) ((hv5.later (by (repeat (first | (with_reducible exact Below.refl _ _) | (with_reducible assumption) | (with_reducible refine below_alloc ?_ _) | (with_reducible refine below_drew ?_) | (with_reducible refine below_drewN ?_ _) | (with_reducible refine below_step ?_ (by with_reducible assumption)))))).ints)).mono ?_; rintro e w' ⟨rfl, hbF⟩; simp only [decide_true]) | (go_at_call 43; refine (law33_awake _).mono ?_; rintro e w' ⟨rfl, hbAw⟩))
      all_goals (go_wp2; go_returns; exact ⟨rfl, by (repeat (first | (with_reducible exact Below.refl _ _) | (with_reducible assumption) | (with_reducible refine below_alloc ?_ _) | (with_reducible refine below_drew ?_) | (with_reducible refine below_drewN ?_ _) | (with_reducible refine below_step ?_ (by with_reducible assumption))))⟩)
end Go.Proofs.Ythfcbjfeepindaa
