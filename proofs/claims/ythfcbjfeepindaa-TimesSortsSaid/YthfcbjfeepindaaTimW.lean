/- The answers that layer 33's statements ask: awake. -/
import Derived.Test.YthfcbjfeepindaaTimS
import Derived.Test.YthfcbjfeepindaaTimC
import Derived.Test.YthfcbjfeepindaaTimA
import Derived.Test.YthfcbjfeepindaaSame
import Derived.Test.YthfcbjfeepindaaPlaA
namespace Go.Proofs.Ythfcbjfeepindaa
open Go.RowKit
set_option linter.unusedVariables false
set_option linter.unusedSimpArgs false

theorem PairRow.made1 (w : World) (t : TypeId) (x y : Int) : PairRow (w.alloc (.cells #[.int .i64 x, .int .i64 y] t)) (some ⟨w.heap.size, 0, none⟩) 1 [(x, y)] :=
  ⟨rfl, by decide, fun _ => ⟨w.heap.size, 0, rfl, fun i hi => by
    have h0 : i = 0 := by omega
    subst h0
    have hb := Blk.made w #[.int .i64 x, .int .i64 y] t
    have q0 := hb.cell 0; have q1 := hb.cell 1
    simp at q0 q1
    exact ⟨by simp [prAt, q0], by simp [prAt, q1]⟩⟩⟩
theorem PairRow.made2 (w : World) (t : TypeId) (x y x' y' : Int) : PairRow (w.alloc (.cells #[.int .i64 x, .int .i64 y, .int .i64 x', .int .i64 y'] t)) (some ⟨w.heap.size, 0, none⟩) 2 [(x, y), (x', y')] :=
  ⟨rfl, by decide, fun _ => ⟨w.heap.size, 0, rfl, fun i hi => by
    have hb := Blk.made w #[.int .i64 x, .int .i64 y, .int .i64 x', .int .i64 y'] t
    have q0 := hb.cell 0; have q1 := hb.cell 1; have q2 := hb.cell 2; have q3 := hb.cell 3
    simp at q0 q1 q2 q3
    rcases (show i = 0 ∨ i = 1 by omega) with h0 | h0
    · subst h0; exact ⟨by simp [prAt, q0], by simp [prAt, q1]⟩
    · subst h0; exact ⟨by simp [prAt, q2], by simp [prAt, q3]⟩⟩⟩
theorem PairRow.made1b (w : World) (o : Obj) (t : TypeId) (x y : Int) : PairRow ((w.alloc o).alloc (.cells #[.int .i64 x, .int .i64 y] t)) (some ⟨w.heap.size + 1, 0, none⟩) 1 [(x, y)] := by
  have := PairRow.made1 (w.alloc o) t x y
  simpa using this
theorem rows1 (w : World) : OwnRows ((w.alloc (.cells #[.int .i64 (-2), .int .i64 (-3)] 3)).alloc (.cells #[.slice (some ⟨w.heap.size, 0, none⟩) 2 2] 41)) 0 0 (.slice (some ⟨w.heap.size + 1, 0, none⟩) 1 1) [[-2, -3]] := by
  refine ⟨[.slice (some ⟨w.heap.size, 0, none⟩) 2 2], rfl, ⟨rfl, Or.inr ⟨_, 1, _, rfl, Nat.zero_le _, Blk.at _ _ _ (by simp), by decide, by decide, rfl, rfl⟩⟩, fun i u hi => ?_⟩
  have h0 : RowOf (w.alloc (.cells #[.int .i64 (-2), .int .i64 (-3)] 3)) 0 (.slice (some ⟨w.heap.size, 0, none⟩) 2 2) [-2, -3] := by simpa using RowOf.made w 0 [-2, -3] (by decide)
  rcases i with _ | i
  · simp at hi; subst hi; exact h0.later (by (repeat (first | (with_reducible exact Below.refl _ _) | (with_reducible assumption) | (with_reducible refine below_alloc ?_ _) | (with_reducible refine below_drew ?_) | (with_reducible refine below_drewN ?_ _) | (with_reducible refine below_step ?_ (by with_reducible assumption)))))
  · simp at hi

set_option maxRecDepth 100000 in
set_option maxHeartbeats 4000000 in
theorem law33_awake (w : World) : Calls Try.prog 43 #[] w fun e w' => e = .returned (.bool true) ∧ Below w.heap.size w w' := by
  have k1 : tC 2 1 [(0, 1)] = [[-2, -3]] := by decide +kernel
  have k2 : tAg [1, 0] [(0, 1)] = 0 := by decide +kernel
  have k3 : tAgOk [1, 0] [(0, 1)] = false := by decide +kernel
  have k4 : tAg [0, 1] [(0, 1)] = 1 := by decide +kernel
  have k5 : tAgOk [0, 1] [(0, 1)] = true := by decide +kernel
  have k6 : tSort 3 [(2, 0)] = some [1, 2, 0] := by decide +kernel
  have k7 : tSort 2 [(0, 1), (1, 0)] = none := by decide +kernel
  have K1 := Lib.hid k1; have K2 := Lib.hid k2; have K3 := Lib.hid k3; have K4 := Lib.hid k4; have K5 := Lib.hid k5; have K6 := Lib.hid k6; have K7 := Lib.hid k7
  clear k1 k2 k3 k4 k5 k6 k7
  go_enter Try.func43, Try.ntmps43
  go_wp2_with fail
  refine (tim_Clauses 2 1 _ _ _ [(0, 1)] _ (PairRow.made1 _ _ 0 1) (by decide)).mono ?_
  rintro e w1 ⟨v1, rfl, hv1, hb1⟩
  rw [K1.out] at hv1
  have hB1 : Below w.heap.size w w1 := below_step (by (repeat (first | (with_reducible exact Below.refl _ _) | (with_reducible assumption) | (with_reducible refine below_alloc ?_ _) | (with_reducible refine below_drew ?_) | (with_reducible refine below_drewN ?_ _) | (with_reducible refine below_step ?_ (by with_reducible assumption))))) hb1
  clear hb1
  go_wp2_with fail
  refine (tim_Against _ 2 _ [1, 0] _ 1 _ [(0, 1)] _ ((IntRow.made w1 3 [1, 0] (by decide)).later (below_alloc (Below.refl _ _) _)) (by decide) (PairRow.made1b w1 _ _ 0 1) (by decide) (by decide)).mono ?_
  rintro e w2 ⟨rfl, hb2⟩
  rw [K2.out, K3.out]
  have hB2 : Below w1.heap.size w1 w2 := below_step (by (repeat (first | (with_reducible exact Below.refl _ _) | (with_reducible assumption) | (with_reducible refine below_alloc ?_ _) | (with_reducible refine below_drew ?_) | (with_reducible refine below_drewN ?_ _) | (with_reducible refine below_step ?_ (by with_reducible assumption))))) hb2
  clear hb2
  go_wp2_with fail
  refine (tim_Against _ 2 _ [0, 1] _ 1 _ [(0, 1)] _ ((IntRow.made w2 3 [0, 1] (by decide)).later (below_alloc (Below.refl _ _) _)) (by decide) (PairRow.made1b w2 _ _ 0 1) (by decide) (by decide)).mono ?_
  rintro e w3 ⟨rfl, hb3⟩
  rw [K4.out, K5.out]
  have hB3 : Below w2.heap.size w2 w3 := below_step (by (repeat (first | (with_reducible exact Below.refl _ _) | (with_reducible assumption) | (with_reducible refine below_alloc ?_ _) | (with_reducible refine below_drew ?_) | (with_reducible refine below_drewN ?_ _) | (with_reducible refine below_step ?_ (by with_reducible assumption))))) hb3
  clear hb3
  go_wp2_with fail
  refine (tim_Sort 3 _ _ _ [(2, 0)] _ (PairRow.made1 w3 _ 2 0)).mono ?_
  rintro e w4 ⟨v4, rfl, hv4, hb4⟩
  rw [K6.out] at hv4 ⊢
  have hB4 : Below w3.heap.size w3 w4 := below_step (by (repeat (first | (with_reducible exact Below.refl _ _) | (with_reducible assumption) | (with_reducible refine below_alloc ?_ _) | (with_reducible refine below_drew ?_) | (with_reducible refine below_drewN ?_ _) | (with_reducible refine below_step ?_ (by with_reducible assumption))))) hb4
  clear hb4
  go_wp2_with fail
  refine (tim_Sort 2 _ _ _ [(0, 1), (1, 0)] _ (PairRow.made2 w4 _ 0 1 1 0)).mono ?_
  rintro e w5 ⟨v5, rfl, hv5, hb5⟩
  rw [K7.out]
  have hB5 : Below w4.heap.size w4 w5 := below_step (by (repeat (first | (with_reducible exact Below.refl _ _) | (with_reducible assumption) | (with_reducible refine below_alloc ?_ _) | (with_reducible refine below_drew ?_) | (with_reducible refine below_drewN ?_ _) | (with_reducible refine below_step ?_ (by with_reducible assumption))))) hb5
  clear hb5 hv5
  go_wp2_with fail
  refine (same_RowsV _ _ _ _ _ (hv1.later (by (repeat (first | (with_reducible exact Below.refl _ _) | (with_reducible assumption) | (with_reducible refine below_alloc ?_ _) | (with_reducible refine below_drew ?_) | (with_reducible refine below_drewN ?_ _) | (with_reducible refine below_step ?_ (by with_reducible assumption)))))) (rows1 _)).mono ?_
  rintro e w6 ⟨rfl, hb6⟩
  have hB6 : Below w5.heap.size w5 w6 := below_step (by (repeat (first | (with_reducible exact Below.refl _ _) | (with_reducible assumption) | (with_reducible refine below_alloc ?_ _) | (with_reducible refine below_drew ?_) | (with_reducible refine below_drewN ?_ _) | (with_reducible refine below_step ?_ (by with_reducible assumption))))) hb6
  clear hb6
  go_wp2_with fail
  refine (same_IntsV _ _ _ _ _ (hv4.ints.later (by (repeat (first | (with_reducible exact Below.refl _ _) | (with_reducible assumption) | (with_reducible refine below_alloc ?_ _) | (with_reducible refine below_drew ?_) | (with_reducible refine below_drewN ?_ _) | (with_reducible refine below_step ?_ (by with_reducible assumption)))))) ⟨_, _, _, rfl, Nat.le_refl _, by simp [maxLen], IntRow.made _ _ [1, 2, 0] (by simp [maxLen])⟩).mono ?_
  rintro e w7 ⟨rfl, hb7⟩
  have hB7 : Below w6.heap.size w6 w7 := below_step (by (repeat (first | (with_reducible exact Below.refl _ _) | (with_reducible assumption) | (with_reducible refine below_alloc ?_ _) | (with_reducible refine below_drew ?_) | (with_reducible refine below_drewN ?_ _) | (with_reducible refine below_step ?_ (by with_reducible assumption))))) hb7
  clear hb7
  have e1 : decide (outI ((some [1, 2, 0] : Option (List Nat)).getD []) = [1, 2, 0]) = true := by decide
  rw [e1]
  go_wp2_with fail
  go_returns
  exact ⟨rfl, by (repeat (first | (with_reducible exact Below.refl _ _) | (with_reducible assumption) | (with_reducible refine below_alloc ?_ _) | (with_reducible refine below_drew ?_) | (with_reducible refine below_drewN ?_ _) | (with_reducible refine below_step ?_ (by with_reducible assumption))))⟩
end Go.Proofs.Ythfcbjfeepindaa
