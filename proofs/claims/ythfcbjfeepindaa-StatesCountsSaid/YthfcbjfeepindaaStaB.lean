/- The answers that layer 34's statements ask: awake. -/
import Derived.Test.YthfcbjfeepindaaStaW
import Derived.Test.YthfcbjfeepindaaStaD
import Derived.Test.YthfcbjfeepindaaSame
import Derived.Test.YthfcbjfeepindaaPlaA
namespace Go.Proofs.Ythfcbjfeepindaa
open Go.RowKit
set_option linter.unusedVariables false
set_option linter.unusedSimpArgs false

theorem rows3 (w : World) : OwnRows ((((w.alloc (.cells #[.int .i64 2] 3)).alloc (.cells #[.int .i64 1, .int .i64 2] 3)).alloc (.cells #[.int .i64 (-1), .int .i64 (-2)] 3)).alloc
    (.cells #[.slice (some ⟨w.heap.size, 0, none⟩) 1 1, .slice (some ⟨w.heap.size + 1, 0, none⟩) 2 2, .slice (some ⟨w.heap.size + 1 + 1, 0, none⟩) 2 2] 41)) 0 0
    (.slice (some ⟨w.heap.size + 1 + 1 + 1, 0, none⟩) 3 3) [[2], [1, 2], [-1, -2]] := by
  refine ⟨[.slice (some ⟨w.heap.size, 0, none⟩) 1 1, .slice (some ⟨w.heap.size + 1, 0, none⟩) 2 2, .slice (some ⟨w.heap.size + 1 + 1, 0, none⟩) 2 2], rfl, ⟨rfl, Or.inr ⟨_, 3, _, rfl, Nat.zero_le _, Blk.at _ _ _ (by simp), by decide, by decide, rfl, rfl⟩⟩, fun i u hi => ?_⟩
  have h0 : RowOf (w.alloc (.cells #[.int .i64 2] 3)) 0 (.slice (some ⟨w.heap.size, 0, none⟩) 1 1) [2] := by simpa using RowOf.made w 0 [2] (by decide)
  have h1 : RowOf ((w.alloc (.cells #[.int .i64 2] 3)).alloc (.cells #[.int .i64 1, .int .i64 2] 3)) 0 (.slice (some ⟨w.heap.size + 1, 0, none⟩) 2 2) [1, 2] := by simpa using RowOf.made (w.alloc (.cells #[.int .i64 2] 3)) 0 [1, 2] (by decide)
  have h2 : RowOf (((w.alloc (.cells #[.int .i64 2] 3)).alloc (.cells #[.int .i64 1, .int .i64 2] 3)).alloc (.cells #[.int .i64 (-1), .int .i64 (-2)] 3)) 0 (.slice (some ⟨w.heap.size + 1 + 1, 0, none⟩) 2 2) [-1, -2] := by simpa using RowOf.made ((w.alloc (.cells #[.int .i64 2] 3)).alloc (.cells #[.int .i64 1, .int .i64 2] 3)) 0 [-1, -2] (by decide)
  rcases i with _ | _ | _ | i
  · simp at hi; subst hi; exact h0.later (by (repeat (first | (with_reducible exact Below.refl _ _) | (with_reducible assumption) | (with_reducible refine below_alloc ?_ _) | (with_reducible refine below_drew ?_) | (with_reducible refine below_drewN ?_ _) | (with_reducible refine below_step ?_ (by with_reducible assumption)))))
  · simp at hi; subst hi; exact h1.later (by (repeat (first | (with_reducible exact Below.refl _ _) | (with_reducible assumption) | (with_reducible refine below_alloc ?_ _) | (with_reducible refine below_drew ?_) | (with_reducible refine below_drewN ?_ _) | (with_reducible refine below_step ?_ (by with_reducible assumption)))))
  · simp at hi; subst hi; exact h2.later (by (repeat (first | (with_reducible exact Below.refl _ _) | (with_reducible assumption) | (with_reducible refine below_alloc ?_ _) | (with_reducible refine below_drew ?_) | (with_reducible refine below_drewN ?_ _) | (with_reducible refine below_step ?_ (by with_reducible assumption)))))
  · simp at hi

set_option maxHeartbeats 2000000 in
theorem law34_awake (w : World) : Calls Try.prog 53 #[] w fun e w' => e = .returned (.bool true) ∧ Below w.heap.size w w' := by
  have k1 : stOk 0 2 2 [false, true] = true := by decide +kernel
  have k2 : stRow 0 2 2 [false, true] = [1] := by decide +kernel
  have k3 : stOk 0 2 2 [true, true] = false := by decide +kernel
  have k5 : stTOk 0 2 1 [1] = true := by decide +kernel
  have k6 : stTru 0 2 1 [1] = [false, true] := by decide +kernel
  have k7 : stTOk 0 2 1 [2] = false := by decide +kernel
  have k8 : stCl 0 2 1 = [[2], [1, 2], [-1, -2]] := by decide +kernel
  have k9 : stCl 0 2 2 = [] := by decide +kernel
  have K1 := Lib.hid k1; have K2 := Lib.hid k2; have K3 := Lib.hid k3; have K5 := Lib.hid k5; have K6 := Lib.hid k6; have K7 := Lib.hid k7; have K8 := Lib.hid k8; have K9 := Lib.hid k9
  clear k1 k2 k3 k5 k6 k7 k8 k9
  have hb0 : Below w.heap.size w (w.alloc (.cells #[.int .i64 0, .int .i64 2] 23)) := by (repeat (first | (with_reducible exact Below.refl _ _) | (with_reducible assumption) | (with_reducible refine below_alloc ?_ _) | (with_reducible refine below_drew ?_) | (with_reducible refine below_drewN ?_ _) | (with_reducible refine below_step ?_ (by with_reducible assumption))))
  have hs0 := Blk.made w #[.int .i64 0, .int .i64 2] 23
  generalize hw0 : w.alloc (.cells #[.int .i64 0, .int .i64 2] 23) = W0 at hb0 hs0
  have HZ0 : Hid (W0.heap.size = w.heap.size + 1) := Lib.hid (by rw [← hw0]; simp)
  have HW0 := Lib.hid hw0; clear hw0
  have c0 := hs0.cell 0; have c1 := hs0.cell 1
  simp at c0 c1
  go_enter Try.func53, Try.ntmps53
  go_wp2_with fail
  rw [HW0.out, ← HZ0.out]
  have hB : BoolRow (W0.alloc (.cells #[.bool false, .bool true] 4)) (some ⟨W0.heap.size, 0, none⟩) 2 [false, true] := BoolRow.made W0 4 [false, true] (by decide)
  refine (sta_Row 0 2 _ _ _ _ _ hB).mono ?_
  rintro e w1 ⟨v1, rfl, hv1, hb1⟩
  rw [K1.out]; rw [K2.out] at hv1
  have hB1 : Below W0.heap.size W0 w1 := by (repeat (first | (with_reducible exact Below.refl _ _) | (with_reducible assumption) | (with_reducible refine below_alloc ?_ _) | (with_reducible refine below_drew ?_) | (with_reducible refine below_drewN ?_ _) | (with_reducible refine below_step ?_ (by with_reducible assumption))))
  have d0 := cell_later hB1 c0; have d1 := cell_later hB1 c1
  clear hb1
  go_wp2_with fail
  have hB : BoolRow (w1.alloc (.cells #[.bool true, .bool true] 4)) (some ⟨w1.heap.size, 0, none⟩) 2 [true, true] := BoolRow.made w1 4 [true, true] (by decide)
  refine (sta_Row 0 2 _ _ _ _ _ hB).mono ?_
  rintro e w2 ⟨v2, rfl, hv2, hb2⟩
  rw [K3.out]
  have hB2 : Below w1.heap.size w1 w2 := by (repeat (first | (with_reducible exact Below.refl _ _) | (with_reducible assumption) | (with_reducible refine below_alloc ?_ _) | (with_reducible refine below_drew ?_) | (with_reducible refine below_drewN ?_ _) | (with_reducible refine below_step ?_ (by with_reducible assumption))))
  clear hb2 hv2
  have d0 := cell_later hB2 d0; have d1 := cell_later hB2 d1
  go_wp2_with fail
  have hB : IntRow (w2.alloc (.cells #[.int .i64 1] 3)) (some ⟨w2.heap.size, 0, none⟩) 1 [1] := IntRow.made w2 3 [1] (by decide)
  refine (sta_Truths 0 2 _ _ _ _ _ hB).mono ?_
  rintro e w3 ⟨v3, rfl, hv3, hb3⟩
  rw [K5.out]; rw [K6.out] at hv3
  have hB3 : Below w2.heap.size w2 w3 := by (repeat (first | (with_reducible exact Below.refl _ _) | (with_reducible assumption) | (with_reducible refine below_alloc ?_ _) | (with_reducible refine below_drew ?_) | (with_reducible refine below_drewN ?_ _) | (with_reducible refine below_step ?_ (by with_reducible assumption))))
  clear hb3
  have d0 := cell_later hB3 d0; have d1 := cell_later hB3 d1
  go_wp2_with fail
  have hB : IntRow (w3.alloc (.cells #[.int .i64 2] 3)) (some ⟨w3.heap.size, 0, none⟩) 1 [2] := IntRow.made w3 3 [2] (by decide)
  refine (sta_Truths 0 2 _ _ _ _ _ hB).mono ?_
  rintro e w4 ⟨v4, rfl, hv4, hb4⟩
  rw [K7.out]
  have hB4 : Below w3.heap.size w3 w4 := by (repeat (first | (with_reducible exact Below.refl _ _) | (with_reducible assumption) | (with_reducible refine below_alloc ?_ _) | (with_reducible refine below_drew ?_) | (with_reducible refine below_drewN ?_ _) | (with_reducible refine below_step ?_ (by with_reducible assumption))))
  clear hb4 hv4
  have d0 := cell_later hB4 d0; have d1 := cell_later hB4 d1
  go_wp2_with fail
  refine (sta_Clauses 0 2 1 _).mono ?_
  rintro e w5 ⟨v5, rfl, hv5, hb5⟩
  rw [K8.out] at hv5
  have hB5 : Below w4.heap.size w4 w5 := by (repeat (first | (with_reducible exact Below.refl _ _) | (with_reducible assumption) | (with_reducible refine below_alloc ?_ _) | (with_reducible refine below_drew ?_) | (with_reducible refine below_drewN ?_ _) | (with_reducible refine below_step ?_ (by with_reducible assumption))))
  clear hb5
  have d0 := cell_later hB5 d0; have d1 := cell_later hB5 d1
  go_wp2_with fail
  refine (same_RowsV _ _ _ _ _ (hv5.later (by (repeat (first | (with_reducible exact Below.refl _ _) | (with_reducible assumption) | (with_reducible refine below_alloc ?_ _) | (with_reducible refine below_drew ?_) | (with_reducible refine below_drewN ?_ _) | (with_reducible refine below_step ?_ (by with_reducible assumption)))))) (rows3 _)).mono ?_
  rintro e w6 ⟨rfl, hb6⟩
  have hB6 : Below w5.heap.size w5 w6 := by (repeat (first | (with_reducible exact Below.refl _ _) | (with_reducible assumption) | (with_reducible refine below_alloc ?_ _) | (with_reducible refine below_drew ?_) | (with_reducible refine below_drewN ?_ _) | (with_reducible refine below_step ?_ (by with_reducible assumption))))
  clear hb6
  have d0 := cell_later hB6 d0; have d1 := cell_later hB6 d1
  go_wp2_with fail
  refine (same_IntsV _ _ _ _ _ (hv1.ints.later (by (repeat (first | (with_reducible exact Below.refl _ _) | (with_reducible assumption) | (with_reducible refine below_alloc ?_ _) | (with_reducible refine below_drew ?_) | (with_reducible refine below_drewN ?_ _) | (with_reducible refine below_step ?_ (by with_reducible assumption)))))) ⟨_, _, _, rfl, Nat.le_refl _, by simp [maxLen], IntRow.made _ _ [1] (by simp [maxLen])⟩).mono ?_
  rintro e w7 ⟨rfl, hb7⟩
  have hB7 : Below w6.heap.size w6 w7 := by (repeat (first | (with_reducible exact Below.refl _ _) | (with_reducible assumption) | (with_reducible refine below_alloc ?_ _) | (with_reducible refine below_drew ?_) | (with_reducible refine below_drewN ?_ _) | (with_reducible refine below_step ?_ (by with_reducible assumption))))
  clear hb7
  have d0 := cell_later hB7 d0; have d1 := cell_later hB7 d1
  obtain ⟨ba, bc, rfl, _, _, hbr⟩ := hv3.row
  go_wp2_with fail
  refine (same_Bools _ _ _ _ _ _ [false, true] [false, true] _ (hbr.later (by (repeat (first | (with_reducible exact Below.refl _ _) | (with_reducible assumption) | (with_reducible refine below_alloc ?_ _) | (with_reducible refine below_drew ?_) | (with_reducible refine below_drewN ?_ _) | (with_reducible refine below_step ?_ (by with_reducible assumption)))))) (BoolRow.made _ _ [false, true] (by simp [maxLen]))).mono ?_
  rintro e w8 ⟨rfl, hb8⟩
  have hB8 : Below w7.heap.size w7 w8 := by (repeat (first | (with_reducible exact Below.refl _ _) | (with_reducible assumption) | (with_reducible refine below_alloc ?_ _) | (with_reducible refine below_drew ?_) | (with_reducible refine below_drewN ?_ _) | (with_reducible refine below_step ?_ (by with_reducible assumption))))
  clear hb8 hbr
  have d0 := cell_later hB8 d0; have d1 := cell_later hB8 d1
  go_wp2_with fail
  refine (sta_Clauses 0 2 2 _).mono ?_
  rintro e w9 ⟨v9, rfl, hv9, hb9⟩
  rw [K9.out] at hv9
  obtain ⟨_, _, _, rfl, _, _, hr9⟩ := hv9.rows
  have hl9 := hr9.1
  simp at hl9
  subst hl9
  go_wp2_with fail
  go_returns
  exact ⟨rfl, by (repeat (first | (with_reducible exact Below.refl _ _) | (with_reducible assumption) | (with_reducible refine below_alloc ?_ _) | (with_reducible refine below_drew ?_) | (with_reducible refine below_drewN ?_ _) | (with_reducible refine below_step ?_ (by with_reducible assumption))))⟩
end Go.Proofs.Ythfcbjfeepindaa
