/- The answers that layer 32's statements ask: awake. -/
import Derived.Test.YthfcbjfeepindaaPlaA
namespace Go.Proofs.Ythfcbjfeepindaa
open Go.RowKit
set_option linter.unusedVariables false

theorem rows6 (w : World) : OwnRows ((((((((w.alloc (.cells #[.int .i64 1, .int .i64 2] 3)).alloc (.cells #[.int .i64 (-1), .int .i64 (-2)] 3)).alloc (.cells #[.int .i64 3, .int .i64 4] 3)).alloc (.cells #[.int .i64 (-3), .int .i64 (-4)] 3)).alloc (.cells #[.int .i64 (-1), .int .i64 (-3)] 3)).alloc (.cells #[.int .i64 (-2), .int .i64 (-4)] 3))).alloc
    (.cells #[.slice (some ⟨w.heap.size, 0, none⟩) 2 2, .slice (some ⟨w.heap.size + 1, 0, none⟩) 2 2, .slice (some ⟨w.heap.size + 1 + 1, 0, none⟩) 2 2, .slice (some ⟨w.heap.size + 1 + 1 + 1, 0, none⟩) 2 2, .slice (some ⟨w.heap.size + 1 + 1 + 1 + 1, 0, none⟩) 2 2, .slice (some ⟨w.heap.size + 1 + 1 + 1 + 1 + 1, 0, none⟩) 2 2] 41)) 0 0
    (.slice (some ⟨w.heap.size + 1 + 1 + 1 + 1 + 1 + 1, 0, none⟩) 6 6) [[1, 2], [-1, -2], [3, 4], [-3, -4], [-1, -3], [-2, -4]] := by
  refine ⟨[.slice (some ⟨w.heap.size, 0, none⟩) 2 2, .slice (some ⟨w.heap.size + 1, 0, none⟩) 2 2, .slice (some ⟨w.heap.size + 1 + 1, 0, none⟩) 2 2, .slice (some ⟨w.heap.size + 1 + 1 + 1, 0, none⟩) 2 2, .slice (some ⟨w.heap.size + 1 + 1 + 1 + 1, 0, none⟩) 2 2, .slice (some ⟨w.heap.size + 1 + 1 + 1 + 1 + 1, 0, none⟩) 2 2], rfl, ⟨rfl, Or.inr ⟨_, 6, _, rfl, Nat.zero_le _, Blk.at _ _ _ (by simp), by decide, by decide, rfl, rfl⟩⟩, fun i u hi => ?_⟩
  have h0 : RowOf (w.alloc (.cells #[.int .i64 1, .int .i64 2] 3)) 0 (.slice (some ⟨w.heap.size, 0, none⟩) 2 2) [1, 2] := by simpa using RowOf.made w 0 [1, 2] (by decide)
  have h1 : RowOf ((w.alloc (.cells #[.int .i64 1, .int .i64 2] 3)).alloc (.cells #[.int .i64 (-1), .int .i64 (-2)] 3)) 0 (.slice (some ⟨w.heap.size + 1, 0, none⟩) 2 2) [-1, -2] := by simpa using RowOf.made (w.alloc (.cells #[.int .i64 1, .int .i64 2] 3)) 0 [-1, -2] (by decide)
  have h2 : RowOf (((w.alloc (.cells #[.int .i64 1, .int .i64 2] 3)).alloc (.cells #[.int .i64 (-1), .int .i64 (-2)] 3)).alloc (.cells #[.int .i64 3, .int .i64 4] 3)) 0 (.slice (some ⟨w.heap.size + 1 + 1, 0, none⟩) 2 2) [3, 4] := by simpa using RowOf.made ((w.alloc (.cells #[.int .i64 1, .int .i64 2] 3)).alloc (.cells #[.int .i64 (-1), .int .i64 (-2)] 3)) 0 [3, 4] (by decide)
  have h3 : RowOf ((((w.alloc (.cells #[.int .i64 1, .int .i64 2] 3)).alloc (.cells #[.int .i64 (-1), .int .i64 (-2)] 3)).alloc (.cells #[.int .i64 3, .int .i64 4] 3)).alloc (.cells #[.int .i64 (-3), .int .i64 (-4)] 3)) 0 (.slice (some ⟨w.heap.size + 1 + 1 + 1, 0, none⟩) 2 2) [-3, -4] := by simpa using RowOf.made (((w.alloc (.cells #[.int .i64 1, .int .i64 2] 3)).alloc (.cells #[.int .i64 (-1), .int .i64 (-2)] 3)).alloc (.cells #[.int .i64 3, .int .i64 4] 3)) 0 [-3, -4] (by decide)
  have h4 : RowOf (((((w.alloc (.cells #[.int .i64 1, .int .i64 2] 3)).alloc (.cells #[.int .i64 (-1), .int .i64 (-2)] 3)).alloc (.cells #[.int .i64 3, .int .i64 4] 3)).alloc (.cells #[.int .i64 (-3), .int .i64 (-4)] 3)).alloc (.cells #[.int .i64 (-1), .int .i64 (-3)] 3)) 0 (.slice (some ⟨w.heap.size + 1 + 1 + 1 + 1, 0, none⟩) 2 2) [-1, -3] := by simpa using RowOf.made ((((w.alloc (.cells #[.int .i64 1, .int .i64 2] 3)).alloc (.cells #[.int .i64 (-1), .int .i64 (-2)] 3)).alloc (.cells #[.int .i64 3, .int .i64 4] 3)).alloc (.cells #[.int .i64 (-3), .int .i64 (-4)] 3)) 0 [-1, -3] (by decide)
  have h5 : RowOf ((((((w.alloc (.cells #[.int .i64 1, .int .i64 2] 3)).alloc (.cells #[.int .i64 (-1), .int .i64 (-2)] 3)).alloc (.cells #[.int .i64 3, .int .i64 4] 3)).alloc (.cells #[.int .i64 (-3), .int .i64 (-4)] 3)).alloc (.cells #[.int .i64 (-1), .int .i64 (-3)] 3)).alloc (.cells #[.int .i64 (-2), .int .i64 (-4)] 3)) 0 (.slice (some ⟨w.heap.size + 1 + 1 + 1 + 1 + 1, 0, none⟩) 2 2) [-2, -4] := by simpa using RowOf.made (((((w.alloc (.cells #[.int .i64 1, .int .i64 2] 3)).alloc (.cells #[.int .i64 (-1), .int .i64 (-2)] 3)).alloc (.cells #[.int .i64 3, .int .i64 4] 3)).alloc (.cells #[.int .i64 (-3), .int .i64 (-4)] 3)).alloc (.cells #[.int .i64 (-1), .int .i64 (-3)] 3)) 0 [-2, -4] (by decide)
  rcases i with _ | _ | _ | _ | _ | _ | i
  · simp at hi; subst hi; exact h0.later (by (repeat (first | (with_reducible exact Below.refl _ _) | (with_reducible assumption) | (with_reducible refine below_alloc ?_ _) | (with_reducible refine below_drew ?_) | (with_reducible refine below_drewN ?_ _) | (with_reducible refine below_step ?_ (by with_reducible assumption)))))
  · simp at hi; subst hi; exact h1.later (by (repeat (first | (with_reducible exact Below.refl _ _) | (with_reducible assumption) | (with_reducible refine below_alloc ?_ _) | (with_reducible refine below_drew ?_) | (with_reducible refine below_drewN ?_ _) | (with_reducible refine below_step ?_ (by with_reducible assumption)))))
  · simp at hi; subst hi; exact h2.later (by (repeat (first | (with_reducible exact Below.refl _ _) | (with_reducible assumption) | (with_reducible refine below_alloc ?_ _) | (with_reducible refine below_drew ?_) | (with_reducible refine below_drewN ?_ _) | (with_reducible refine below_step ?_ (by with_reducible assumption)))))
  · simp at hi; subst hi; exact h3.later (by (repeat (first | (with_reducible exact Below.refl _ _) | (with_reducible assumption) | (with_reducible refine below_alloc ?_ _) | (with_reducible refine below_drew ?_) | (with_reducible refine below_drewN ?_ _) | (with_reducible refine below_step ?_ (by with_reducible assumption)))))
  · simp at hi; subst hi; exact h4.later (by (repeat (first | (with_reducible exact Below.refl _ _) | (with_reducible assumption) | (with_reducible refine below_alloc ?_ _) | (with_reducible refine below_drew ?_) | (with_reducible refine below_drewN ?_ _) | (with_reducible refine below_step ?_ (by with_reducible assumption)))))
  · simp at hi; subst hi; exact h5.later (by (repeat (first | (with_reducible exact Below.refl _ _) | (with_reducible assumption) | (with_reducible refine below_alloc ?_ _) | (with_reducible refine below_drew ?_) | (with_reducible refine below_drewN ?_ _) | (with_reducible refine below_step ?_ (by with_reducible assumption)))))
  · simp at hi

set_option maxHeartbeats 2000000 in
theorem law32_awake (w : World) : Calls Try.prog 30 #[] w fun e w' => e = .returned (.bool true) ∧ Below w.heap.size w w' := by
  go_enter Try.func30, Try.ntmps30
  go_wp2_with (go_at_call 78; refine (law32_two _).mono ?_; rintro e w' ⟨rfl, hbT⟩)
  refine (pla_Order 2 1 _ _ _ [false, true, true, false, false, false, false, false, false] _ (by decide) (by decide) (BoolRow.made _ _ [false, true, true, false, false, false, false, false, false] (by decide))).mono ?_
  rintro e w1 (⟨l, v, rfl, hl, hv, hb1⟩ | ⟨hno, _⟩)
  rotate_left
  · exact absurd ord21 (hno _)
  obtain rfl : l = [1, 0] := hl.uniq ord21
  obtain ⟨la, lcap, rfl, hl1, hl2, hlr⟩ : ∃ la lcap, v = .slice la 2 lcap ∧ 2 ≤ lcap ∧ lcap ≤ maxLen ∧ IntRow w1 la 2 [1, 0] := by
    obtain ⟨la, ll, lcap, e1, e2, e3, e4⟩ := hv.ints
    have := e4.1; subst this
    exact ⟨la, lcap, e1, e2, e3, e4⟩
  have hB1 : Below w.heap.size w w1 := by (repeat (first | (with_reducible exact Below.refl _ _) | (with_reducible assumption) | (with_reducible refine below_alloc ?_ _) | (with_reducible refine below_drew ?_) | (with_reducible refine below_drewN ?_ _) | (with_reducible refine below_step ?_ (by with_reducible assumption))))
  clear hb1 hbT hv hl
  go_wp2_with (go_at_call 78; refine (law32_two _).mono ?_; rintro e w' ⟨rfl, hbT⟩)
  refine (pla_Order 2 1 _ _ _ [true, true, false, false, false, false, false, false, false] _ (by decide) (by decide) (BoolRow.made _ _ [true, true, false, false, false, false, false, false, false] (by decide))).mono ?_
  rintro e w2 (⟨l, v, rfl, hl, hv, hb2⟩ | ⟨hno, rfl, hb2⟩)
  · exact absurd hl (noOrd2 _)
  have hB2 : Below w1.heap.size w1 w2 := by (repeat (first | (with_reducible exact Below.refl _ _) | (with_reducible assumption) | (with_reducible refine below_alloc ?_ _) | (with_reducible refine below_drew ?_) | (with_reducible refine below_drewN ?_ _) | (with_reducible refine below_step ?_ (by with_reducible assumption))))
  clear hb2 hbT hno
  go_wp2_with (go_at_call 78; refine (law32_two _).mono ?_; rintro e w' ⟨rfl, hbT⟩)
  refine (pla_Truths 2 1 _ _ [1, 0] _ (by decide) (IntRow.made _ _ [1, 0] (by decide))).mono ?_
  rintro e w3 (⟨_, bs, v, rfl, htru, hv, hb3⟩ | ⟨hno, _⟩)
  rotate_left
  · exact absurd pm10 hno
  obtain rfl := htru.uniq tru10
  obtain ⟨ma, mcap, rfl, hm1, hm2, hmr⟩ := hv.row
  have hB3 : Below w2.heap.size w2 w3 := by (repeat (first | (with_reducible exact Below.refl _ _) | (with_reducible assumption) | (with_reducible refine below_alloc ?_ _) | (with_reducible refine below_drew ?_) | (with_reducible refine below_drewN ?_ _) | (with_reducible refine below_step ?_ (by with_reducible assumption))))
  clear hb3 hbT hv htru
  go_wp2_with (go_at_call 78; refine (law32_two _).mono ?_; rintro e w' ⟨rfl, hbT⟩)
  refine (pla_Truths 2 1 _ _ [1, 1] _ (by decide) (IntRow.made _ _ [1, 1] (by decide))).mono ?_
  rintro e w4 (⟨hp, _⟩ | ⟨_, rfl, hb4⟩)
  · exact absurd hp noPm11
  have hB4 : Below w3.heap.size w3 w4 := by (repeat (first | (with_reducible exact Below.refl _ _) | (with_reducible assumption) | (with_reducible refine below_alloc ?_ _) | (with_reducible refine below_drew ?_) | (with_reducible refine below_drewN ?_ _) | (with_reducible refine below_step ?_ (by with_reducible assumption))))
  clear hb4 hbT
  have hlr4 : IntRow w4 la 2 [1, 0] := hlr.later (by (repeat (first | (with_reducible exact Below.refl _ _) | (with_reducible assumption) | (with_reducible refine below_alloc ?_ _) | (with_reducible refine below_drew ?_) | (with_reducible refine below_drewN ?_ _) | (with_reducible refine below_step ?_ (by with_reducible assumption)))))
  have hmr4 : BoolRow w4 ma _ _ := hmr.later hB4
  have hB : Below w.heap.size w w4 := by (repeat (first | (with_reducible exact Below.refl _ _) | (with_reducible assumption) | (with_reducible refine below_alloc ?_ _) | (with_reducible refine below_drew ?_) | (with_reducible refine below_drewN ?_ _) | (with_reducible refine below_step ?_ (by with_reducible assumption))))
  clear hB1 hB2 hB3 hB4 hlr hmr
  go_wp2_with fail
  refine (same_Ints _ _ _ _ _ _ _ _ _ (hlr4.later (by (repeat (first | (with_reducible exact Below.refl _ _) | (with_reducible assumption) | (with_reducible refine below_alloc ?_ _) | (with_reducible refine below_drew ?_) | (with_reducible refine below_drewN ?_ _) | (with_reducible refine below_step ?_ (by with_reducible assumption)))))) (IntRow.made _ _ [1, 0] (by decide))).mono ?_
  rintro e w5 ⟨rfl, hb5⟩
  have hB5 : Below w4.heap.size w4 w5 := by (repeat (first | (with_reducible exact Below.refl _ _) | (with_reducible assumption) | (with_reducible refine below_alloc ?_ _) | (with_reducible refine below_drew ?_) | (with_reducible refine below_drewN ?_ _) | (with_reducible refine below_step ?_ (by with_reducible assumption))))
  clear hb5
  obtain ⟨mb, mo, rfl, hmc⟩ := (hmr4.later hB5).2.2 (by decide)
  have m0 := hmc 0 (by decide); have m1 := hmc 1 (by decide); have m2 := hmc 2 (by decide)
  simp at m0 m1 m2
  clear hmc hmr4 hlr4
  go_wp2_with (go_at_call 78; refine (law32_two _).mono ?_; rintro e w' ⟨rfl, hbT⟩)
  refine (pla_Clauses 2 1 _ (by decide)).mono ?_
  rintro e w6 ⟨v, rfl, hcl, hb6⟩
  have hB6 : Below w5.heap.size w5 w6 := by (repeat (first | (with_reducible exact Below.refl _ _) | (with_reducible assumption) | (with_reducible refine below_alloc ?_ _) | (with_reducible refine below_drew ?_) | (with_reducible refine below_drewN ?_ _) | (with_reducible refine below_step ?_ (by with_reducible assumption))))
  clear hb6 hbT m0 m1 m2
  have hpc : plaC 1 2 = [[1, 2], [-1, -2], [3, 4], [-3, -4], [-1, -3], [-2, -4]] := by decide +kernel
  rw [hpc] at hcl
  go_wp2_with fail
  refine (same_RowsV _ _ _ _ _ (hcl.later (by (repeat (first | (with_reducible exact Below.refl _ _) | (with_reducible assumption) | (with_reducible refine below_alloc ?_ _) | (with_reducible refine below_drew ?_) | (with_reducible refine below_drewN ?_ _) | (with_reducible refine below_step ?_ (by with_reducible assumption)))))) (rows6 _)).mono ?_
  rintro e w7 ⟨rfl, hb7⟩
  have hB7 : Below w6.heap.size w6 w7 := by (repeat (first | (with_reducible exact Below.refl _ _) | (with_reducible assumption) | (with_reducible refine below_alloc ?_ _) | (with_reducible refine below_drew ?_) | (with_reducible refine below_drewN ?_ _) | (with_reducible refine below_step ?_ (by with_reducible assumption))))
  clear hb7
  go_wp2_with fail
  refine (pla_Most _ _ _ [1, 2, 3] _ (IntRow.made _ _ [1, 2, 3] (by decide)) (by decide) (by decide)).mono ?_
  rintro e w8 ⟨v, rfl, hmo, hb8⟩
  have hmm : (most wneg [1, 2, 3]).length = 3 := by decide +kernel
  obtain ⟨_, _, _, hvm, _, _, hr2⟩ := hmo.rows
  subst hvm
  rw [← hr2.1, hmm]
  go_wp2_with fail
  go_returns
  exact ⟨rfl, by (repeat (first | (with_reducible exact Below.refl _ _) | (with_reducible assumption) | (with_reducible refine below_alloc ?_ _) | (with_reducible refine below_drew ?_) | (with_reducible refine below_drewN ?_ _) | (with_reducible refine below_step ?_ (by with_reducible assumption))))⟩
end Go.Proofs.Ythfcbjfeepindaa
