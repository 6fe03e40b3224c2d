/- The answers that layer 2's statements ask: awake. -/
import Derived.Test.YtcifneenbdibeaaClaT
import Derived.Test.YtcifneenbdibeaaSame
namespace Go.Proofs.Ytcifneenbdibeaa
open Go.RowKit
set_option linter.unusedVariables false
set_option linter.unusedSimpArgs false

theorem IntRow.at (w : World) (t : TypeId) (xs : List Int) {b : Nat} (hb : b = w.heap.size) (hm : xs.length ≤ maxLen) : IntRow (w.alloc (.cells (xs.map (Value.int .i64)).toArray t)) (some ⟨b, 0, none⟩) xs.length xs := by subst hb; exact IntRow.made w t xs hm
theorem fits_small2 {xs : List Int} (h : (xs.all fun x => decide (-100 ≤ x ∧ x ≤ 100)) = true) : Fits' xs := fun x hx => by
  rw [List.all_eq_true] at h
  have := of_decide_eq_true (h x hx)
  omega
set_option maxRecDepth 100000 in
set_option maxHeartbeats 4000000 in
theorem law02_awake (w : World) : Calls Try.prog 7 #[] w fun e w' => e = .returned (.bool true) ∧ Below w.heap.size w w' := by
  have kr1 : cRes [1, 2] [-2, 3] 2 = [1, 3] := by decide +kernel
  have Kr1 := Lib.hid kr1
  clear kr1
  have ke1 : cResE [1, 2] [-2, 3] 2 = 0 := by decide +kernel
  have Ke1 := Lib.hid ke1
  clear ke1
  have ke2 : cResE [1, 2] [-2, 3] 1 = 11 := by decide +kernel
  have Ke2 := Lib.hid ke2
  clear ke2
  have ke3 : cResE [1, 2] [-2, 3] 0 = 10 := by decide +kernel
  have Ke3 := Lib.hid ke3
  clear ke3
  have kn5 : cNorm [-2, 0, 1, -2] = [1, -2] := by decide +kernel
  have Kn5 := Lib.hid kn5
  clear kn5
  have kt6 : cTaut [1, 2, -1] = true := by decide +kernel
  have Kt6 := Lib.hid kt6
  clear kt6
  have kt7 : cTaut [1, 2] = false := by decide +kernel
  have Kt7 := Lib.hid kt7
  clear kt7
  have ks8 : cSub [1] [2, 1] = true := by decide +kernel
  have Ks8 := Lib.hid ks8
  clear ks8
  have ks9 : cSub [3] [2, 1] = false := by decide +kernel
  have Ks9 := Lib.hid ks9
  clear ks9
  have ks10 : (cSub [1, 2] [2, 1] && cSub [2, 1] [1, 2]) = true := by decide +kernel
  have Ks10 := Lib.hid ks10
  clear ks10
  have kh11 : cHas [1, -2] (-2) = true := by decide +kernel
  have Kh11 := Lib.hid kh11
  clear kh11
  have kw12 : cWithout [3, 1, 2] 1 = [2, 3] := by decide +kernel
  have Kw12 := Lib.hid kw12
  clear kw12
  have kc13 : cCheck [1, -2] 2 = 0 := by decide +kernel
  have Kc13 := Lib.hid kc13
  clear kc13
  have kc14 : cCheck [1, 1] 2 = 21 := by decide +kernel
  have Kc14 := Lib.hid kc14
  clear kc14
  have kc15 : cCheck [3] 2 = 10 := by decide +kernel
  have Kc15 := Lib.hid kc15
  clear kc15
  go_enter Try.func7, Try.ntmps7
  go_wp2_with fail
  refine (cla_Resolve _ 2 _ [1, 2] _ 2 _ [-2, 3] 2 _ ((IntRow.at w 3 [1, 2] rfl (by decide)).later (below_alloc (Below.refl _ _) _)) (IntRow.at (w.alloc _) 3 [-2, 3] (by simp) (by decide)) (by decide) (by decide)).mono ?_
  rintro e w1 ⟨v1, rfl, hv1, hb⟩
  rw [Kr1.out] at hv1
  rw [Ke1.out]
  have Q1 := Lib.hid hv1.ints
  clear hv1
  have hB1 : Below w.heap.size w w1 := below_step (below_alloc (below_alloc (Below.refl _ _) _) _) hb
  clear hb
  go_wp2_with fail
  refine (cla_Resolve _ 2 _ [1, 2] _ 2 _ [-2, 3] 1 _ ((IntRow.at w1 3 [1, 2] rfl (by decide)).later (below_alloc (Below.refl _ _) _)) (IntRow.at (w1.alloc _) 3 [-2, 3] (by simp) (by decide)) (by decide) (by decide)).mono ?_
  rintro e w2 ⟨v2, rfl, hvx, hb⟩
  rw [Ke2.out]
  clear hvx
  have hB2 : Below w1.heap.size w1 w2 := below_step (below_alloc (below_alloc (Below.refl _ _) _) _) hb
  clear hb
  go_wp2_with fail
  refine (cla_Resolve _ 2 _ [1, 2] _ 2 _ [-2, 3] 0 _ ((IntRow.at w2 3 [1, 2] rfl (by decide)).later (below_alloc (Below.refl _ _) _)) (IntRow.at (w2.alloc _) 3 [-2, 3] (by simp) (by decide)) (by decide) (by decide)).mono ?_
  rintro e w3 ⟨v3, rfl, hvx, hb⟩
  rw [Ke3.out]
  clear hvx
  have hB3 : Below w2.heap.size w2 w3 := below_step (below_alloc (below_alloc (Below.refl _ _) _) _) hb
  clear hb
  go_wp2_with fail
  refine (same_IntsV _ _ [1, 3] [1, 3] _ ((Q1.out.later (below_step hB2 hB3)).later (below_alloc (Below.refl _ _) _)) ⟨_, _, _, rfl, Nat.le_refl _, by simp [maxLen], IntRow.at w3 3 [1, 3] rfl (by decide)⟩).mono ?_
  rintro e w4 ⟨rfl, hb⟩
  clear Q1
  have hB4 : Below w3.heap.size w3 w4 := below_step (below_alloc (Below.refl _ _) _) hb
  clear hb
  go_wp2_with fail
  refine (cla_Norm _ 4 _ [-2, 0, 1, -2] _ (IntRow.at w4 3 [-2, 0, 1, -2] rfl (by decide)) (by decide)).mono ?_
  rintro e w5 ⟨v5, rfl, hv5, hb⟩
  rw [Kn5.out] at hv5
  have Q5 := Lib.hid hv5.ints
  clear hv5
  have hB5 : Below w4.heap.size w4 w5 := below_step (below_alloc (Below.refl _ _) _) hb
  clear hb
  go_wp2_with fail
  refine (same_IntsV _ _ [1, -2] [1, -2] _ (Q5.out.later (below_alloc (Below.refl _ _) _)) ⟨_, _, _, rfl, Nat.le_refl _, by simp [maxLen], IntRow.at w5 3 [1, -2] rfl (by decide)⟩).mono ?_
  rintro e w6 ⟨rfl, hb⟩
  clear Q5
  have hB6 : Below w5.heap.size w5 w6 := below_step (below_alloc (Below.refl _ _) _) hb
  clear hb
  go_wp2_with fail
  refine (cla_Taut _ 3 _ [1, 2, -1] _ (IntRow.at w6 3 [1, 2, -1] rfl (by decide)) (by decide)).mono ?_
  rintro e w7 ⟨rfl, hb⟩
  rw [Kt6.out]
  have hB7 : Below w6.heap.size w6 w7 := below_step (below_alloc (Below.refl _ _) _) hb
  clear hb
  go_wp2_with fail
  refine (cla_Taut _ 2 _ [1, 2] _ (IntRow.at w7 3 [1, 2] rfl (by decide)) (by decide)).mono ?_
  rintro e w8 ⟨rfl, hb⟩
  rw [Kt7.out]
  have hB8 : Below w7.heap.size w7 w8 := below_step (below_alloc (Below.refl _ _) _) hb
  clear hb
  go_wp2_with fail
  refine (cla_Subset _ 1 _ [1] _ 2 _ [2, 1] _ ((IntRow.at w8 3 [1] rfl (by decide)).later (below_alloc (Below.refl _ _) _)) (IntRow.at (w8.alloc _) 3 [2, 1] (by simp) (by decide)) (by decide) (fits_small2 (by decide)) (fits_small2 (by decide))).mono ?_
  rintro e w9 ⟨rfl, hb⟩
  rw [Ks8.out]
  have hB9 : Below w8.heap.size w8 w9 := below_step (below_alloc (below_alloc (Below.refl _ _) _) _) hb
  clear hb
  go_wp2_with fail
  refine (cla_Subset _ 1 _ [3] _ 2 _ [2, 1] _ ((IntRow.at w9 3 [3] rfl (by decide)).later (below_alloc (Below.refl _ _) _)) (IntRow.at (w9.alloc _) 3 [2, 1] (by simp) (by decide)) (by decide) (fits_small2 (by decide)) (fits_small2 (by decide))).mono ?_
  rintro e w10 ⟨rfl, hb⟩
  rw [Ks9.out]
  have hB10 : Below w9.heap.size w9 w10 := below_step (below_alloc (below_alloc (Below.refl _ _) _) _) hb
  clear hb
  go_wp2_with fail
  refine (cla_Same _ 2 _ [1, 2] _ 2 _ [2, 1] _ ((IntRow.at w10 3 [1, 2] rfl (by decide)).later (below_alloc (Below.refl _ _) _)) (IntRow.at (w10.alloc _) 3 [2, 1] (by simp) (by decide)) (by decide) (by decide) (fits_small2 (by decide)) (fits_small2 (by decide))).mono ?_
  rintro e w11 ⟨rfl, hb⟩
  rw [Ks10.out]
  have hB11 : Below w10.heap.size w10 w11 := below_step (below_alloc (below_alloc (Below.refl _ _) _) _) hb
  clear hb
  go_wp2_with fail
  refine (cla_Has _ 2 _ [1, -2] (-2) _ (IntRow.at w11 3 [1, -2] rfl (by decide))).mono ?_
  rintro e w12 ⟨rfl, hq⟩
  have hB12 : Below w11.heap.size w11 w12 := by rw [← hq]; exact below_alloc (Below.refl _ _) _
  try rw [hq]
  rw [Kh11.out]
  clear hq
  go_wp2_with fail
  refine (cla_Without _ 3 _ [3, 1, 2] 1 _ (IntRow.at w12 3 [3, 1, 2] rfl (by decide)) (by decide)).mono ?_
  rintro e w13 ⟨v13, rfl, hv13, hb⟩
  rw [Kw12.out] at hv13
  have Q13 := Lib.hid hv13.ints
  clear hv13
  have hB13 : Below w12.heap.size w12 w13 := below_step (below_alloc (Below.refl _ _) _) hb
  clear hb
  go_wp2_with fail
  refine (same_IntsV _ _ [2, 3] [2, 3] _ (Q13.out.later (below_alloc (Below.refl _ _) _)) ⟨_, _, _, rfl, Nat.le_refl _, by simp [maxLen], IntRow.at w13 3 [2, 3] rfl (by decide)⟩).mono ?_
  rintro e w14 ⟨rfl, hb⟩
  clear Q13
  have hB14 : Below w13.heap.size w13 w14 := below_step (below_alloc (Below.refl _ _) _) hb
  clear hb
  go_wp2_with fail
  refine (cla_Check _ 2 _ [1, -2] 2 _ (IntRow.at w14 3 [1, -2] rfl (by decide))).mono ?_
  rintro e w15 ⟨rfl, hb⟩
  rw [Kc13.out]
  have hB15 : Below w14.heap.size w14 w15 := below_step (below_alloc (Below.refl _ _) _) hb
  clear hb
  go_wp2_with fail
  refine (cla_Check _ 2 _ [1, 1] 2 _ (IntRow.at w15 3 [1, 1] rfl (by decide))).mono ?_
  rintro e w16 ⟨rfl, hb⟩
  rw [Kc14.out]
  have hB16 : Below w15.heap.size w15 w16 := below_step (below_alloc (Below.refl _ _) _) hb
  clear hb
  go_wp2_with fail
  refine (cla_Check _ 1 _ [3] 2 _ (IntRow.at w16 3 [3] rfl (by decide))).mono ?_
  rintro e w17 ⟨rfl, hb⟩
  rw [Kc15.out]
  have hB17 : Below w16.heap.size w16 w17 := below_step (below_alloc (Below.refl _ _) _) hb
  clear hb
  have hend : Below w.heap.size w w17 := below_step hB1 (below_step hB2 (below_step hB3 (below_step hB4 (below_step hB5 (below_step hB6 (below_step hB7 (below_step hB8 (below_step hB9 (below_step hB10 (below_step hB11 (below_step hB12 (below_step hB13 (below_step hB14 (below_step hB15 (below_step hB16 (hB17))))))))))))))))
  clear hB1 hB2 hB3 hB4 hB5 hB6 hB7 hB8 hB9 hB10 hB11 hB12 hB13 hB14 hB15 hB16 hB17
  go_wp2_with fail
  go_returns
  exact ⟨rfl, hend⟩
end Go.Proofs.Ytcifneenbdibeaa
