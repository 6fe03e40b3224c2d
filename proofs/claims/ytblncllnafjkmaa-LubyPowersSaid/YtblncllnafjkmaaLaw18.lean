/- Layer 18: LubyTells, LubyTwice and LubyPowers. -/
import Derived.Test.YtblncllnafjkmaaLubR
import Derived.Test.YtblncllnafjkmaaSame
namespace Go.Proofs.Ytblncllnafjkmaa
open Go.RowKit
set_option linter.unusedVariables false
set_option linter.unusedSimpArgs false

theorem lub_1 : lub 1 = 1 := lub_top 0
theorem lub_2 : lub 2 = 1 := (lub_rec (i := 2) (k := 1) (by decide) (by decide)).trans lub_1
theorem lub_3 : lub 3 = 2 := lub_top 1
theorem lub_4 : lub 4 = 1 := (lub_rec (i := 4) (k := 2) (by decide) (by decide)).trans lub_1
theorem lub_5 : lub 5 = 1 := (lub_rec (i := 5) (k := 2) (by decide) (by decide)).trans lub_2
theorem lub_6 : lub 6 = 2 := (lub_rec (i := 6) (k := 2) (by decide) (by decide)).trans lub_3
theorem lub_7 : lub 7 = 4 := lub_top 2
theorem lub_8 : lub 8 = 1 := (lub_rec (i := 8) (k := 3) (by decide) (by decide)).trans lub_1
theorem lFirst_8 : lFirst 8 = [1, 1, 2, 1, 1, 2, 4, 1] := by
  have e : lFirst 8 = [(lub 1 : Int), lub 2, lub 3, lub 4, lub 5, lub 6, lub 7, lub 8] := by unfold lFirst; rw [if_neg (by decide)]; rfl
  rw [e, lub_1, lub_2, lub_3, lub_4, lub_5, lub_6, lub_7, lub_8]; rfl
theorem lsum_7 : lsum 1 = 1 ∧ lsum 2 = 2 ∧ lsum 3 = 4 ∧ lsum 7 = 12 := by
  have l1 : lsum 1 = 1 := (show lsum 0 + lub 1 = 1 by rw [lub_1]; rfl)
  have l2 : lsum 2 = 2 := (show lsum 1 + lub 2 = 2 by rw [l1, lub_2])
  have l3 : lsum 3 = 4 := (show lsum 2 + lub 3 = 4 by rw [l2, lub_3])
  have l4 : lsum 4 = 5 := (show lsum 3 + lub 4 = 5 by rw [l3, lub_4])
  have l5 : lsum 5 = 6 := (show lsum 4 + lub 5 = 6 by rw [l4, lub_5])
  have l6 : lsum 6 = 8 := (show lsum 5 + lub 6 = 8 by rw [l5, lub_6])
  exact ⟨l1, l2, l3, (show lsum 6 + lub 7 = 12 by rw [l6, lub_7])⟩
theorem lNext_at {c u m : Nat} (h : lNextOk c u) (h1 : c < u * lsum m) (h2 : ∀ j, j < m → u * lsum j ≤ c) : lNext c u = ((u * lsum m : Nat) : Int) := by
  have hu : 1 ≤ u := by have := h.2.2.1; omega
  unfold lNext; rw [if_pos h, Int.toNat_natCast, Int.toNat_natCast, lmany_eq hu h1 h2]
theorem lNext_aw : lNext 0 100 = 100 ∧ lNext 100 100 = 200 ∧ lNext 200 100 = 400 ∧ lNext (-1) 100 = 0 := by
  obtain ⟨s1, s2, s3, _⟩ := lsum_7
  refine ⟨(lNext_at (c := 0) (u := 100) (m := 1) (by unfold lNextOk; omega) (by rw [s1]; decide) (fun j hj => ?_)).trans (by rw [s1]; rfl), (lNext_at (c := 100) (u := 100) (m := 2) (by unfold lNextOk; omega) (by rw [s2]; decide) (fun j hj => ?_)).trans (by rw [s2]; rfl), (lNext_at (c := 200) (u := 100) (m := 3) (by unfold lNextOk; omega) (by rw [s3]; decide) (fun j hj => ?_)).trans (by rw [s3]; rfl), by unfold lNext; rw [if_neg (by unfold lNextOk; omega)]⟩
  · rw [show j = 0 by omega, lsum]; decide
  · rcases (show j = 0 ∨ j = 1 by omega) with e | e
    · rw [e, lsum]; decide
    · rw [e, s1]; decide
  · rcases (show j = 0 ∨ j = 1 ∨ j = 2 by omega) with e | e | e
    · rw [e, lsum]; decide
    · rw [e, s1]; decide
    · rw [e, s2]; decide

set_option maxRecDepth 100000 in
set_option maxHeartbeats 2000000 in
theorem law18_awake (w : World) : Calls Try.prog 6 #[] w fun e w' => e = .returned (.bool true) ∧ Below w.heap.size w w' := by
  obtain ⟨n1, n2, n3, n4⟩ := lNext_aw
  have n5 : lAt 7 = 4 := by unfold lAt; rw [if_neg (by decide)]; show ((lub 7 : Nat) : Int) = 4; rw [lub_7]; rfl
  have n6 : lAt 0 = 0 := rfl
  have n7 : lSum 7 = 12 := by unfold lSum; rw [if_neg (by decide)]; show ((lsum 7 : Nat) : Int) = 12; rw [lsum_7.2.2.2]; rfl
  have n8 := lFirst_8
  have N8 := Lib.hid n8
  clear n8
  go_enter Try.func6, Try.ntmps6
  go_wp2_with fail
  refine (lub_First 8 _).mono ?_
  rintro e w1 ⟨v, rfl, hown, hb1⟩
  obtain ⟨a, len, cap, rfl, _, _, hr⟩ := hown.ints
  rw [N8.out] at hr
  have hr2 := IntRow.made w1 3 [1, 1, 2, 1, 1, 2, 4, 1] (by decide)
  have hrl := hr.later (below_alloc (Below.refl _ w1) (.cells (([1, 1, 2, 1, 1, 2, 4, 1] : List Int).map (Value.int .i64)).toArray 3))
  clear hown hr
  go_wp2_with (first | (go_at_call 9; refine (same_Ints _ _ _ _ _ _ _ _ _ hrl hr2).mono ?_; rintro e w' ⟨rfl, hb⟩) | (go_at_call 7; refine (lub_At _ _).mono ?_; rintro e w' ⟨rfl, rfl⟩) | (go_at_call 12; refine (lub_Sum _ _).mono ?_; rintro e w' ⟨rfl, hb⟩) | (go_at_call 14; refine (lub_Next _ _ _).mono ?_; rintro e w' ⟨rfl, hb⟩))
  go_returns
  exact ⟨rfl, by (repeat (first | (with_reducible exact Below.refl _ _) | (with_reducible assumption) | (with_reducible refine below_alloc ?_ _) | (with_reducible refine below_drew ?_) | (with_reducible refine below_drewN ?_ _) | (with_reducible refine below_step ?_ (by with_reducible assumption))))⟩

set_option maxRecDepth 100000 in
set_option maxHeartbeats 4000000 in
theorem lubyTells_walk (w : World) (i : Int) (wi : (Lit.int .i64 i).wf = true) (n : Int) (wn : (Lit.int .i64 n).wf = true) (c0 c1 : Int) (wc0 : (Lit.int .i64 c0).wf = true) (wc1 : (Lit.int .i64 c1).wf = true) :
    Calls Try.prog 3 #[.int .i64 i, .int .i64 n, .agg #[.int .i64 c0, .int .i64 c1]] w fun e w' => e = .returned (.bool true) ∧ Below w.heap.size w w' := by
  clear wi wn wc0 wc1
  have hb1 : Below w.heap.size w (w.alloc (.cells #[.int .i64 c0, .int .i64 c1] 22)) := by (repeat (first | (with_reducible exact Below.refl _ _) | (with_reducible assumption) | (with_reducible refine below_alloc ?_ _) | (with_reducible refine below_drew ?_) | (with_reducible refine below_drewN ?_ _) | (with_reducible refine below_step ?_ (by with_reducible assumption))))
  have hs1 := Blk.made w #[.int .i64 c0, .int .i64 c1] 22
  generalize hw1 : w.alloc (.cells #[.int .i64 c0, .int .i64 c1] 22) = W1 at *
  have HW1 := Lib.hid hw1; clear hw1
  have q0 := hs1.cell 0; have q1 := hs1.cell 1
  simp at q0 q1
  clear hs1
  go_enter Try.func3, Try.ntmps3
  go_wp2_with (go_at_call 6; refine (law18_awake _).mono ?_; rintro e w' ⟨rfl, hbAw⟩)
  all_goals first
  | (go_returns; exact ⟨rfl, by (repeat (first | (with_reducible exact Below.refl _ _) | (with_reducible assumption) | (with_reducible refine below_alloc ?_ _) | (with_reducible refine below_drew ?_) | (with_reducible refine below_drewN ?_ _) | (with_reducible refine below_step ?_ (by with_reducible assumption))))⟩)
  | skip
  all_goals
    rw [HW1.out]
    go_region_held3 (fun wx => Below W1.heap.size W1 wx ∧ wx.cell? ⟨w.heap.size, 0, none⟩ = some (.int .i64 c0) ∧ wx.cell? ⟨w.heap.size, 1, none⟩ = some (.int .i64 c1)) ((refine ⟨?_, ?_, ?_⟩; (repeat (first | (with_reducible exact Below.refl _ _) | (with_reducible assumption) | (with_reducible refine below_alloc ?_ _) | (with_reducible refine below_drew ?_) | (with_reducible refine below_drewN ?_ _) | (with_reducible refine below_step ?_ (by with_reducible assumption)))); all_goals (refine cell_later (w := W1) ?_ ?_ <;> (repeat (first | (with_reducible exact Below.refl _ _) | (with_reducible assumption) | (with_reducible refine below_alloc ?_ _) | (with_reducible refine below_drew ?_) | (with_reducible refine below_drewN ?_ _) | (with_reducible refine below_step ?_ (by with_reducible assumption)))))))
      (first | (go_at_call 7; refine (lub_At _ _).mono ?_; rintro e w' ⟨rfl, rfl⟩) | (go_at_call 8; refine (rlub_At _ _).mono ?_; rintro e w' ⟨rfl, rfl⟩) | (go_at_call 10; refine (lub_First _ _).mono ?_; rintro e w' ⟨v1, rfl, hA, hbA⟩) | (go_at_call 11; refine (rlub_First _ _).mono ?_; rintro e w' ⟨v2, rfl, hB, hbB⟩) | (go_at_call 9; refine (same_IntsV _ _ _ _ _ ((hA.later (by (repeat (first | (with_reducible exact Below.refl _ _) | (with_reducible assumption) | (with_reducible refine below_alloc ?_ _) | (with_reducible refine below_drew ?_) | (with_reducible refine below_drewN ?_ _) | (with_reducible refine below_step ?_ (by with_reducible assumption)))))).ints) ((hB.later (by (repeat (first | (with_reducible exact Below.refl _ _) | (with_reducible assumption) | (with_reducible refine below_alloc ?_ _) | (with_reducible refine below_drew ?_) | (with_reducible refine below_drewN ?_ _) | (with_reducible refine below_step ?_ (by with_reducible assumption)))))).ints)).mono ?_; rintro e w' ⟨rfl, hbE⟩; simp only [decide_true]) | (go_at_call 12; refine (lub_Sum _ _).mono ?_; rintro e w' ⟨rfl, hbS⟩) | (go_at_call 13; refine (rlub_Sum _ _).mono ?_; rintro e w' ⟨rfl, rfl⟩) | (go_at_call 14; refine (lub_Next _ _ _).mono ?_; rintro e w' ⟨rfl, hbN⟩) | (go_at_call 15; refine (rlub_Next _ _ _).mono ?_; rintro e w' ⟨rfl, rfl⟩) | (go_at_call 6; refine (law18_awake _).mono ?_; rintro e w' ⟨rfl, hbAw⟩))
    all_goals (go_wp2; go_returns; exact ⟨rfl, by (repeat (first | (with_reducible exact Below.refl _ _) | (with_reducible assumption) | (with_reducible refine below_alloc ?_ _) | (with_reducible refine below_drew ?_) | (with_reducible refine below_drewN ?_ _) | (with_reducible refine below_step ?_ (by with_reducible assumption))))⟩)
end Go.Proofs.Ytblncllnafjkmaa
