/- Layer 32: PlacesTells and PlacesReads are true for every input. -/
import Derived.Test.YthfcbjfeepindaaPlaB
import Derived.Test.YthfcbjfeepindaaLift
namespace Go.Proofs.Ythfcbjfeepindaa
open Go.RowKit
set_option linter.unusedVariables false
set_option linter.unusedSimpArgs false

/-- Clauses of places, and of the reference, whatever the size: the same rows. -/
theorem pla_Clauses_any (o s : Int) (w : World) : Calls Try.prog 32 #[.agg #[.int .i64 o, .int .i64 s]] w fun e w' => ∃ v, e = .returned v ∧ OwnRows w' w.heap.size 0 v (if nOk o s then plaC s o.toNat else []) ∧ Below w.heap.size w w' := by
  by_cases hok : nOk o s
  · obtain ⟨n, rfl⟩ : ∃ n : Nat, o = n := ⟨o.toNat, by have := hok.1; omega⟩
    rw [if_pos hok, Int.toNat_natCast]
    exact pla_Clauses n s w hok
  · rw [if_neg hok]
    refine (pla_Clauses_no o s w hok).mono ?_
    rintro e w' ⟨rfl, hb⟩
    exact ⟨_, rfl, OwnRows.nil _ _ _, hb⟩
theorem ref_Clauses_any (o s : Int) (w : World) : Calls Try.prog 33 #[.int .i64 o, .int .i64 s] w fun e w' => ∃ v, e = .returned v ∧ OwnRows w' w.heap.size 0 v (if nOk o s then plaC s o.toNat else []) ∧ Below w.heap.size w w' := by
  by_cases hok : nOk o s
  · obtain ⟨n, rfl⟩ : ∃ n : Nat, o = n := ⟨o.toNat, by have := hok.1; omega⟩
    rw [if_pos hok, Int.toNat_natCast]
    exact ref_Clauses32 n s w hok
  · rw [if_neg hok]
    refine (ref_Clauses32_no o s w hok).mono ?_
    rintro e w' ⟨rfl, rfl⟩
    exact ⟨_, rfl, OwnRows.nil _ _ _, Below.refl _ _⟩

set_option maxHeartbeats 2000000 in
theorem placesTells_walk (w : World) (o s : Int) (wo : (Lit.int .i64 o).wf = true) (ws : (Lit.int .i64 s).wf = true) (va : Option Addr) (vl vc : Nat) (xs : List Int) (hr : IntRow w va vl xs) (hf : Fits xs) (hvc : vl ≤ vc ∧ vc ≤ maxLen ∧ (va = none → vc = 0)) :
    Calls Try.prog 6 #[.agg #[.int .i64 o, .int .i64 s], .slice va vl vc] w fun e w' => e = .returned (.bool true) ∧ Below w.heap.size w w' := by
  clear wo ws hf
  have hcap := hvc.1; clear hvc
  have hb1 : Below w.heap.size w (w.alloc (.cells #[.int .i64 o, .int .i64 s] 23)) := by (repeat (first | (with_reducible exact Below.refl _ _) | (with_reducible assumption) | (with_reducible refine below_alloc ?_ _) | (with_reducible refine below_drew ?_) | (with_reducible refine below_drewN ?_ _) | (with_reducible refine below_step ?_ (by with_reducible assumption))))
  have hs1 := Blk.made w #[.int .i64 o, .int .i64 s] 23
  generalize hw1 : w.alloc (.cells #[.int .i64 o, .int .i64 s] 23) = W1 at hb1 hs1
  have HW1 := Lib.hid hw1; clear hw1
  have c0 := hs1.cell 0; have c1 := hs1.cell 1
  simp at c0 c1
  have HC := Lib.hid (And.intro c0 c1)
  have HR := Lib.hid hr; clear hr
  by_cases hbig : (10 < o ∧ o ≤ 64) ∨ 40 < (vl : Int)
  · go_enter Try.func6, Try.ntmps6
    go_wp2_with fail
    all_goals (try rw [HW1.out])
    all_goals
      go_wp2_with (go_at_call 30; refine (law32_awake _).mono ?_; rintro e w' ⟨rfl, hbAw⟩)
      all_goals first | (exfalso; omega) | (go_returns; exact ⟨rfl, by (repeat (first | (with_reducible exact Below.refl _ _) | (with_reducible assumption) | (with_reducible refine below_alloc ?_ _) | (with_reducible refine below_drew ?_) | (with_reducible refine below_drewN ?_ _) | (with_reducible refine below_step ?_ (by with_reducible assumption))))⟩)
  · have h40 : (vl : Int) ≤ 40 := by omega
    have h10 : ¬ 10 < o ∨ ¬ o ≤ 64 := by omega
    clear hbig
    have hd : decide (40 < (vl : Int)) = false := by simp; omega
    go_enter Try.func6, Try.ntmps6
    go_wp2_with fail
    all_goals (try rw [HW1.out])
    all_goals go_wp2_with fail
    all_goals
      go_region_held3 (fun wx => Below W1.heap.size W1 wx ∧ wx.cell? ⟨w.heap.size, 0, none⟩ = some (.int .i64 o) ∧ wx.cell? ⟨w.heap.size, 1, none⟩ = some (.int .i64 s)) ((refine ⟨?_, ?_, ?_⟩; (repeat (first | (with_reducible exact Below.refl _ _) | (with_reducible assumption) | (with_reducible refine below_alloc ?_ _) | (with_reducible refine below_drew ?_) | (with_reducible refine below_drewN ?_ _) | (with_reducible refine below_step ?_ (by with_reducible assumption)))); all_goals (refine cell_later (w := W1) ?_ ?_ <;> (repeat (first | (with_reducible exact Below.refl _ _) | (with_reducible assumption) | (with_reducible refine below_alloc ?_ _) | (with_reducible refine below_drew ?_) | (with_reducible refine below_drewN ?_ _) | (with_reducible refine below_step ?_ (by with_reducible assumption)))))))
        (first | (go_at_call 32; refine (pla_Clauses_any _ _ _).mono ?_; rintro e w' ⟨v1, rfl, hA, hbA⟩) | (go_at_call 33; refine (ref_Clauses_any _ _ _).mono ?_; rintro e w' ⟨v2, rfl, hB, hbB⟩) | (go_at_call 34; refine (pla_Most _ _ _ _ _ (HR.out.later (by (repeat (first | (with_reducible exact Below.refl _ _) | (with_reducible assumption) | (with_reducible refine below_alloc ?_ _) | (with_reducible refine below_drew ?_) | (with_reducible refine below_drewN ?_ _) | (with_reducible refine below_step ?_ (by with_reducible assumption)))))) hcap (by omega)).mono ?_; rintro e w' ⟨v3, rfl, hC, hbC⟩) | (go_at_call 35; refine (ref_Most32 _ _ _ _ _ (HR.out.later (by (repeat (first | (with_reducible exact Below.refl _ _) | (with_reducible assumption) | (with_reducible refine below_alloc ?_ _) | (with_reducible refine below_drew ?_) | (with_reducible refine below_drewN ?_ _) | (with_reducible refine below_step ?_ (by with_reducible assumption)))))) (by omega)).mono ?_; rintro e w' ⟨v4, rfl, hD, hbD⟩) | (go_at_call 31; ((with_reducible refine (same_RowsV _ _ _ _ _ (hA.later (by (repeat (first | (with_reducible exact Below.refl _ _) | (with_reducible assumption) | (with_reducible refine below_alloc ?_ _) | (with_reducible refine below_drew ?_) | (with_reducible refine below_drewN ?_ _) | (with_reducible refine below_step ?_ (by with_reducible assumption)))))) (hB.later (by (repeat (first | (with_reducible exact Below.refl _ _) | (with_reducible assumption) | (with_reducible refine below_alloc ?_ _) | (with_reducible refine below_drew ?_) | (with_reducible refine below_drewN ?_ _) | (with_reducible refine below_step ?_ (by with_reducible assumption))))))).mono ?_)); rintro e w' ⟨rfl, hbE⟩; simp only [decide_true]) | (go_at_call 31; ((with_reducible refine (same_RowsV _ _ _ _ _ (hC.later (by (repeat (first | (with_reducible exact Below.refl _ _) | (with_reducible assumption) | (with_reducible refine below_alloc ?_ _) | (with_reducible refine below_drew ?_) | (with_reducible refine below_drewN ?_ _) | (with_reducible refine below_step ?_ (by with_reducible assumption)))))) (hD.later (by (repeat (first | (with_reducible exact Below.refl _ _) | (with_reducible assumption) | (with_reducible refine below_alloc ?_ _) | (with_reducible refine below_drew ?_) | (with_reducible refine below_drewN ?_ _) | (with_reducible refine below_step ?_ (by with_reducible assumption))))))).mono ?_)); rintro e w' ⟨rfl, hbF⟩; simp only [decide_true]) | (go_at_call 30; refine (law32_awake _).mono ?_; rintro e w' ⟨rfl, hbAw⟩))
      all_goals (go_wp2; go_returns; exact ⟨rfl, by (repeat (first | (with_reducible exact Below.refl _ _) | (with_reducible assumption) | (with_reducible refine below_alloc ?_ _) | (with_reducible refine below_drew ?_) | (with_reducible refine below_drewN ?_ _) | (with_reducible refine below_step ?_ (by with_reducible assumption))))⟩)
end Go.Proofs.Ythfcbjfeepindaa
