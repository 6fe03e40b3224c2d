/- The answers that layer 3's statements ask: awake. -/
import Derived.Test.YtmaaoijlchfdgaaAsgR
import Derived.Test.YtmaaoijlchfdgaaSame
import Derived.Test.YtmaaoijlchfdgaaEqt
namespace Go.Proofs.Ytmaaoijlchfdgaa
open Go.RowKit
set_option linter.unusedVariables false
set_option linter.unusedSimpArgs false

theorem BoolRow.make (w : World) (t : TypeId) (xs : List Bool) (hm : xs.length ≤ maxLen) : BoolRow (w.alloc (.cells (xs.map Value.bool).toArray t)) (some ⟨w.heap.size, 0, none⟩) xs.length xs :=
  ⟨rfl, hm, fun _ => ⟨w.heap.size, 0, rfl, fun i hi => by
    have h : (w.alloc (.cells (xs.map Value.bool).toArray t)).cell? ⟨w.heap.size, i, none⟩ = (xs.map Value.bool)[i]? := by
      simp [go_sem]
    rw [Nat.zero_add, h]; simp [hi, List.getD]⟩⟩
theorem fits_small {xs : List Int} (h : (xs.all fun x => decide (-100 ≤ x ∧ x ≤ 100)) = true) : Fits' xs := fun x hx => by
  rw [List.all_eq_true] at h
  have := of_decide_eq_true (h x hx)
  omega
theorem row_add {w w1 : World} {a : Option Addr} {n : Nat} {xs : List Int} (h : IntRow w a n xs) (hb : Below w.heap.size w w1) (o : Obj) : IntRow (w1.alloc o) a n xs := h.later (below_alloc hb o)

set_option maxRecDepth 100000 in
set_option maxHeartbeats 4000000 in
theorem law03_awake (w : World) : Calls Try.prog 7 #[] w fun e w' => e = .returned (.bool true) ∧ Below w.heap.size w w' := by
  have k1 : aUnit [1, -2] [-1, 2, 3] = 3 := by decide +kernel
  have k2 : aUnitOk [1, -2] [-1, 2, 3] = true := by decide +kernel
  have k3 : aUnitOk [1, -2] [-1, 3, 4] = false := by decide +kernel
  have k4 : aVal [1, -2] 2 = -1 := by decide +kernel
  have k5 : aVal [1, -2] 1 = 1 := by decide +kernel
  have k6 : aVal [1, -2] 3 = 0 := by decide +kernel
  have k7 : aCl [1, -2] [-1, 2] = -1 := by decide +kernel
  have k8 : aCl [1, -2] [-1, 3] = 0 := by decide +kernel
  have k9 : aCl [1, -2] [3, 1] = 1 := by decide +kernel
  have k10 : aN [1, -2] [1, 2, 3, 4] 1 = 1 ∧ aN [1, -2] [1, 2, 3, 4] (-1) = 1 ∧ aN [1, -2] [1, 2, 3, 4] 0 = 2 := by decide +kernel
  have k11 : aFull [1, -2] 2 = true := by decide +kernel
  have k12 : aFull [1, -2] 3 = false := by decide +kernel
  have k13 : aModel [1, -2] 3 = [true, false, false] := by decide +kernel
  have k14 : aFrom [true, false] = [1, -2] := by decide +kernel
  have k15 : aCheck [1, -2] 2 = 0 := by decide +kernel
  have k16 : aCheck [1, -1] 2 = 21 := by decide +kernel
  have k17 : aCheck [3] 2 = 10 := by decide +kernel
  have K1 := Lib.hid k1
  have K2 := Lib.hid k2
  have K3 := Lib.hid k3
  have K4 := Lib.hid k4
  have K5 := Lib.hid k5
  have K6 := Lib.hid k6
  have K7 := Lib.hid k7
  have K8 := Lib.hid k8
  have K9 := Lib.hid k9
  have K10 := Lib.hid k10
  have K11 := Lib.hid k11
  have K12 := Lib.hid k12
  have K13 := Lib.hid k13
  have K14 := Lib.hid k14
  have K15 := Lib.hid k15
  have K16 := Lib.hid k16
  have K17 := Lib.hid k17
  clear k1 k2 k3 k4 k5 k6 k7 k8 k9 k10 k11 k12 k13 k14 k15 k16 k17
  have hl := IntRow.made w 3 [1, -2] (by decide)
  have hfl : Fits' [1, -2] := fits_small (by decide)
  have hb0 : Below w.heap.size w (w.alloc (.cells (([1, -2] : List Int).map (Value.int .i64)).toArray 3)) := by (repeat (first | (with_reducible exact Below.refl _ _) | (with_reducible assumption) | (with_reducible refine below_alloc ?_ _) | (with_reducible refine below_drew ?_) | (with_reducible refine below_drewN ?_ _) | (with_reducible refine below_step ?_ (by with_reducible assumption))))
  have HW0 : Hid (w.alloc (.cells (([1, -2] : List Int).map (Value.int .i64)).toArray 3) = w.alloc (.cells #[.int .i64 1, .int .i64 (-2)] 3)) := Lib.hid rfl
  have HZ0 : Hid (w.heap.size + 1 = (w.alloc (.cells (([1, -2] : List Int).map (Value.int .i64)).toArray 3)).heap.size) := Lib.hid (by simp)
  generalize hw0 : w.alloc (.cells (([1, -2] : List Int).map (Value.int .i64)).toArray 3) = W0 at hl hb0 HW0 HZ0
  have HF := Lib.hid hfl
  have HL := Lib.hid hl
  clear hw0 hl hfl
  go_enter Try.func7, Try.ntmps7
  go_wp2_with fail
  rw [← HW0.out, HZ0.out]
  have R0 := HL
  refine (asg_Unit _ 2 _ [1, -2] _ 3 _ [-1, 2, 3] _ (R0.out.later (below_alloc (Below.refl _ _) _)) (IntRow.made W0 3 [-1, 2, 3] (by decide)) (by decide) (by decide) HF.out (fits_small (by decide))).mono ?_
  rintro e w1 ⟨rfl, hb1⟩
  rw [K1.out, K2.out]
  have hB1 : Below W0.heap.size W0 w1 := below_step (below_alloc (Below.refl _ _) _) hb1
  have R1 := Lib.hid (R0.out.later hB1)
  clear hb1
  go_wp2_with fail
  refine (asg_Unit _ 2 _ [1, -2] _ 3 _ [-1, 3, 4] _ (R1.out.later (below_alloc (Below.refl _ _) _)) (IntRow.made w1 3 [-1, 3, 4] (by decide)) (by decide) (by decide) HF.out (fits_small (by decide))).mono ?_
  rintro e w2 ⟨rfl, hb2⟩
  rw [K3.out]
  have hB2 : Below w1.heap.size w1 w2 := below_step (below_alloc (Below.refl _ _) _) hb2
  have R2 := Lib.hid (R1.out.later hB2)
  clear hb2
  have V4 := Lib.hid (asg_Value _ 2 2 [1, -2] 2 w2 R2.out)
  have V5 := Lib.hid (asg_Value _ 2 2 [1, -2] 1 w2 R2.out)
  have V6 := Lib.hid (asg_Value _ 2 2 [1, -2] 3 w2 R2.out)
  go_wp2_with fail
  refine V4.out.mono ?_
  rintro e w' ⟨rfl, rfl⟩
  rw [K4.out]
  go_wp2_with fail
  refine V5.out.mono ?_
  rintro e w' ⟨rfl, rfl⟩
  rw [K5.out]
  go_wp2_with fail
  refine V6.out.mono ?_
  rintro e w' ⟨rfl, rfl⟩
  rw [K6.out]
  clear V4 V5 V6
  go_wp2_with fail
  refine (asg_Clause _ 2 _ [1, -2] _ 2 _ [-1, 2] _ (R2.out.later (below_alloc (Below.refl _ _) _)) (IntRow.made w2 3 [-1, 2] (by decide)) (by decide) (by decide) HF.out (fits_small (by decide))).mono ?_
  rintro e w3 ⟨rfl, hb3⟩
  rw [K7.out]
  have hB3 : Below w2.heap.size w2 w3 := below_step (below_alloc (Below.refl _ _) _) hb3
  have R3 := Lib.hid (R2.out.later hB3)
  clear hb3
  go_wp2_with fail
  refine (asg_Clause _ 2 _ [1, -2] _ 2 _ [-1, 3] _ (R3.out.later (below_alloc (Below.refl _ _) _)) (IntRow.made w3 3 [-1, 3] (by decide)) (by decide) (by decide) HF.out (fits_small (by decide))).mono ?_
  rintro e w4 ⟨rfl, hb4⟩
  rw [K8.out]
  have hB4 : Below w3.heap.size w3 w4 := below_step (below_alloc (Below.refl _ _) _) hb4
  have R4 := Lib.hid (R3.out.later hB4)
  clear hb4
  go_wp2_with fail
  refine (asg_Clause _ 2 _ [1, -2] _ 2 _ [3, 1] _ (R4.out.later (below_alloc (Below.refl _ _) _)) (IntRow.made w4 3 [3, 1] (by decide)) (by decide) (by decide) HF.out (fits_small (by decide))).mono ?_
  rintro e w5 ⟨rfl, hb5⟩
  rw [K9.out]
  have hB5 : Below w4.heap.size w4 w5 := below_step (below_alloc (Below.refl _ _) _) hb5
  have R5 := Lib.hid (R4.out.later hB5)
  clear hb5
  go_wp2_with fail
  refine (asg_CountE _ 2 _ [1, -2] _ 4 _ [1, 2, 3, 4] _ (R5.out.later (below_alloc (Below.refl _ _) _)) (IntRow.made w5 3 [1, 2, 3, 4] (by decide)) (by decide) (by decide) HF.out (fits_small (by decide)) 1 1 2 K10.out).mono ?_
  rintro e w6 ⟨rfl, hb6⟩
  have hB6 : Below w5.heap.size w5 w6 := below_step (below_alloc (Below.refl _ _) _) hb6
  have R6 := Lib.hid (R5.out.later hB6)
  clear hb6
  go_wp2_with fail
  refine (asg_Full _ 2 _ [1, -2] 2 _ R6.out (by decide)).mono ?_
  rintro e w7 ⟨rfl, hb7⟩
  rw [K11.out]
  have R7 := Lib.hid (R6.out.later hb7)
  have hB7 := hb7
  clear hb7
  go_wp2_with fail
  refine (asg_Full _ 2 _ [1, -2] 3 _ R7.out (by decide)).mono ?_
  rintro e w8 ⟨rfl, hb8⟩
  rw [K12.out]
  have R8 := Lib.hid (R7.out.later hb8)
  have hB8 := hb8
  clear hb8
  go_wp2_with fail
  refine (asg_Model _ 2 _ [1, -2] 3 _ R8.out).mono ?_
  rintro e w9 ⟨v9, rfl, hv9, hB9⟩
  rw [K13.out] at hv9
  obtain ⟨a9, c9, rfl, _, _, r9⟩ := hv9.row
  have R9 := Lib.hid (R8.out.later hB9)
  have Q9 := Lib.hid r9
  clear hv9 r9
  go_wp2_with fail
  refine (same_Bools _ _ _ _ _ _ [true, false, false] [true, false, false] _ (Q9.out.later (below_alloc (Below.refl _ _) _)) (BoolRow.make w9 4 [true, false, false] (by decide))).mono ?_
  rintro e w10 ⟨rfl, hb10⟩
  have hB10 : Below w9.heap.size w9 w10 := below_step (below_alloc (Below.refl _ _) _) hb10
  have R10 := Lib.hid (R9.out.later hB10)
  clear hb10 Q9
  go_wp2_with fail
  refine (asg_From _ 2 _ [true, false] _ (BoolRow.make w10 4 [true, false] (by decide))).mono ?_
  rintro e w11 ⟨v11, rfl, hv11, hb11⟩
  rw [K14.out] at hv11
  have hB11 : Below w10.heap.size w10 w11 := below_step (below_alloc (Below.refl _ _) _) hb11
  have R11 := Lib.hid (R10.out.later hB11)
  have Q11 := Lib.hid hv11.ints
  clear hb11 hv11
  go_wp2_with fail
  refine (same_IntsV _ _ [1, -2] [1, -2] _ Q11.out ⟨_, _, _, rfl, Nat.le_refl _, by simp [maxLen], R11.out⟩).mono ?_
  rintro e w12 ⟨rfl, hB12⟩
  have R12 := Lib.hid (R11.out.later hB12)
  clear Q11
  go_wp2_with fail
  refine (asg_Check _ 2 _ [1, -2] 2 _ R12.out (by decide)).mono ?_
  rintro e w13 ⟨rfl, hB13⟩
  rw [K15.out]
  go_wp2_with fail
  refine (asg_Check _ 2 _ [1, -1] 2 _ (IntRow.made w13 3 [1, -1] (by decide)) (by decide)).mono ?_
  rintro e w14 ⟨rfl, hb14⟩
  rw [K16.out]
  have hB14 : Below w13.heap.size w13 w14 := below_step (below_alloc (Below.refl _ _) _) hb14
  clear hb14
  go_wp2_with fail
  refine (asg_Check _ 1 _ [3] 2 _ (IntRow.made w14 3 [3] (by decide)) (by decide)).mono ?_
  rintro e w15 ⟨rfl, hb15⟩
  rw [K17.out]
  have hB15 : Below w14.heap.size w14 w15 := below_step (below_alloc (Below.refl _ _) _) hb15
  clear hb15
  have hend : Below w.heap.size w w15 := below_step hb0 (below_step hB1 (below_step hB2 (below_step hB3 (below_step hB4 (below_step hB5 (below_step hB6 (below_step hB7 (below_step hB8 (below_step hB9 (below_step hB10 (below_step hB11 (below_step hB12 (below_step hB13 (below_step hB14 hB15))))))))))))))
  clear hB1 hB2 hB3 hB4 hB5 hB6 hB7 hB8 hB9 hB10 hB11 hB12 hB13 hB14 hB15
  go_wp2_with fail
  go_returns
  exact ⟨rfl, hend⟩
end Go.Proofs.Ytmaaoijlchfdgaa
