/- Layer 3: AssignModels. -/
import Derived.Test.YtmaaoijlchfdgaaAsgA
namespace Go.Proofs.Ytmaaoijlchfdgaa
open Go.RowKit
set_option linter.unusedVariables false
set_option linter.unusedSimpArgs false

set_option maxRecDepth 100000 in
set_option maxHeartbeats 8000000 in
theorem assignModels_walk (w : World) (a : Option Addr) (len cap : Nat) (l : List Int) (hr : IntRow w a len l) (hf : Fits' l) (hcap : len ≤ cap ∧ cap ≤ maxLen ∧ (a = none → cap = 0)) (vars : Int) (wv : (Lit.int .i64 vars).wf = true) (a2 : Option Addr) (len2 cap2 : Nat) (m : List Bool) (hr2 : BoolRow w a2 len2 m) (hcap2 : len2 ≤ cap2 ∧ cap2 ≤ maxLen ∧ (a2 = none → cap2 = 0)) :
    Calls Try.prog 4 #[.slice a len cap, .int .i64 vars, .slice a2 len2 cap2] w fun e w' => e = .returned (.bool true) ∧ Below w.heap.size w w' := by
  have HLC := Lib.hid hcap.1
  clear wv hcap hcap2 hf
  have HR := Lib.hid hr; have HR2 := Lib.hid hr2
  have HL := Lib.hid hr.1
  have d5 : decide (200 < (len : Int)) = decide (200 < len) := by rw [Bool.eq_iff_iff]; simp; omega
  have d6 : decide (300 < (len2 : Int)) = decide (300 < len2) := by rw [Bool.eq_iff_iff]; simp; omega
  clear hr hr2
  by_cases h1 : 200 < len
  · rw [decide_eq_true h1] at d5
    clear h1 d6
    go_enter Try.func4, Try.ntmps4
    go_wp2_with (go_at_call 7; refine (law03_awake _).mono ?_; rintro e w' ⟨rfl, hbAw⟩)
    all_goals (go_returns; exact ⟨rfl, by (repeat (first | (with_reducible exact Below.refl _ _) | (with_reducible assumption) | (with_reducible refine below_alloc ?_ _) | (with_reducible refine below_drew ?_) | (with_reducible refine below_drewN ?_ _) | (with_reducible refine below_step ?_ (by with_reducible assumption))))⟩)
  · rw [decide_eq_false h1] at d5
    by_cases h3 : 300 < vars
    · have d7 : decide (300 < vars) = true := decide_eq_true h3
      clear h1 h3 d6
      go_enter Try.func4, Try.ntmps4
      go_wp2_with (go_at_call 7; refine (law03_awake _).mono ?_; rintro e w' ⟨rfl, hbAw⟩)
      all_goals (go_returns; exact ⟨rfl, by (repeat (first | (with_reducible exact Below.refl _ _) | (with_reducible assumption) | (with_reducible refine below_alloc ?_ _) | (with_reducible refine below_drew ?_) | (with_reducible refine below_drewN ?_ _) | (with_reducible refine below_step ?_ (by with_reducible assumption))))⟩)
    · have d7 : decide (300 < vars) = false := decide_eq_false h3
      by_cases h2 : 300 < len2
      · rw [decide_eq_true h2] at d6
        clear h1 h2 h3
        go_enter Try.func4, Try.ntmps4
        go_wp2_with (go_at_call 7; refine (law03_awake _).mono ?_; rintro e w' ⟨rfl, hbAw⟩)
        all_goals (go_returns; exact ⟨rfl, by (repeat (first | (with_reducible exact Below.refl _ _) | (with_reducible assumption) | (with_reducible refine below_alloc ?_ _) | (with_reducible refine below_drew ?_) | (with_reducible refine below_drewN ?_ _) | (with_reducible refine below_step ?_ (by with_reducible assumption))))⟩)
      · rw [decide_eq_false h2] at d6
        have HL1 : Hid (len ≤ 1000000) := Lib.hid (by omega)
        clear h1 h2 h3
        go_enter Try.func4, Try.ntmps4
        go_wp2_with fail
        refine (asg_Model _ _ _ l _ _ HR.out).mono ?_
        rintro e w1 ⟨v1, rfl, hv1, hb1⟩
        have R1 := Lib.hid (HR.out.later hb1); have S1 := Lib.hid (HR2.out.later hb1)
        go_wp2_with fail
        refine (ref_Model03 _ _ _ l _ _ R1.out).mono ?_
        rintro e w2 ⟨v2, rfl, hv2, hb2⟩
        have hV1 := Lib.hid (hv1.later hb2)
        have hV2 := Lib.hid hv2
        have R2 := Lib.hid (R1.out.later hb2); have S2 := Lib.hid (S1.out.later hb2)
        have hB2 := below_step hb1 hb2
        clear hb1 hb2 hv1 hv2
        go_wp2_with fail
        refine (same_BoolsV _ _ _ _ _ hV1.out hV2.out).mono ?_
        rintro e w3 ⟨rfl, hb3⟩
        simp only [decide_true]
        have R3 := Lib.hid (R2.out.later hb3); have S3 := Lib.hid (S2.out.later hb3)
        have hB3 := below_step hB2 hb3
        clear hb3 hB2
        go_wp2_with fail
        refine (asg_From _ _ _ m _ S3.out).mono ?_
        rintro e w4 ⟨v4, rfl, hv4, hb4⟩
        have R4 := Lib.hid (R3.out.later hb4); have S4 := Lib.hid (S3.out.later hb4)
        go_wp2_with fail
        refine (ref_From03 _ _ _ m _ S4.out).mono ?_
        rintro e w5 ⟨v5, rfl, hv5, hb5⟩
        have hV4 := Lib.hid (hv4.later hb5).ints
        have hV5 := Lib.hid hv5.ints
        have R5 := Lib.hid (R4.out.later hb5)
        have hB5 := below_step hB3 (below_step hb4 hb5)
        clear hb4 hb5 hv4 hv5 hB3
        go_wp2_with fail
        refine (same_IntsV _ _ _ _ _ hV4.out hV5.out).mono ?_
        rintro e w6 ⟨rfl, hb6⟩
        simp only [decide_true]
        have R6 := Lib.hid (R5.out.later hb6)
        have hB6 := below_step hB5 hb6
        clear hb6 hB5
        go_wp2_with fail
        refine (asg_Full _ _ _ l _ _ R6.out HL1.out).mono ?_
        rintro e w7 ⟨rfl, hb7⟩
        have R7 := Lib.hid (R6.out.later hb7)
        have hB7 := below_step hB6 hb7
        clear hb7 hB6
        go_wp2_with fail
        refine (ref_Check03 _ _ _ l _ _ R7.out HLC.out).mono ?_
        rintro e w8 ⟨rfl, hb8⟩
        have hB8 := below_step hB7 hb8
        clear hb8 hB7
        have hfull : aFull l vars = (aCheck l vars == 0 && (len : Int) == vars) := by
          unfold aFull; rw [HL.out, Bool.eq_iff_iff]; simp [and_comm]
        rw [hfull]
        by_cases k1 : aCheck l vars = 0
        · rw [k1]
          by_cases k2 : (len : Int) = vars
          · have k3 : ((len : Int) == vars) = true := by simpa using k2
            rw [k3]; clear k2
            go_wp2_with (go_at_call 7; refine (law03_awake _).mono ?_; rintro e w' ⟨rfl, hbAw⟩)
            go_returns
            exact ⟨rfl, by (repeat (first | (with_reducible exact Below.refl _ _) | (with_reducible assumption) | (with_reducible refine below_alloc ?_ _) | (with_reducible refine below_drew ?_) | (with_reducible refine below_drewN ?_ _) | (with_reducible refine below_step ?_ (by with_reducible assumption))))⟩
          · have k3 : ((len : Int) == vars) = false := by simpa using k2
            rw [k3]; clear k2
            go_wp2_with (go_at_call 7; refine (law03_awake _).mono ?_; rintro e w' ⟨rfl, hbAw⟩)
            go_returns
            exact ⟨rfl, by (repeat (first | (with_reducible exact Below.refl _ _) | (with_reducible assumption) | (with_reducible refine below_alloc ?_ _) | (with_reducible refine below_drew ?_) | (with_reducible refine below_drewN ?_ _) | (with_reducible refine below_step ?_ (by with_reducible assumption))))⟩
        · have k3 : (aCheck l vars == 0) = false := by simpa using k1
          rw [k3]; clear k1
          go_wp2_with (go_at_call 7; refine (law03_awake _).mono ?_; rintro e w' ⟨rfl, hbAw⟩)
          go_returns
          exact ⟨rfl, by (repeat (first | (with_reducible exact Below.refl _ _) | (with_reducible assumption) | (with_reducible refine below_alloc ?_ _) | (with_reducible refine below_drew ?_) | (with_reducible refine below_drewN ?_ _) | (with_reducible refine below_step ?_ (by with_reducible assumption))))⟩
end Go.Proofs.Ytmaaoijlchfdgaa
