/- Layer 3: AssignFull. -/
import Derived.Test.YtmaaoijlchfdgaaAsgA
import Derived.Test.YtmaaoijlchfdgaaHolds
namespace Go.Proofs.Ytmaaoijlchfdgaa
open Go.RowKit
set_option linter.unusedVariables false
set_option linter.unusedSimpArgs false

set_option maxRecDepth 100000 in
set_option maxHeartbeats 8000000 in
theorem assignFull_walk (w : World) (a : Option Addr) (len cap : Nat) (m : List Bool) (hr : BoolRow w a len m) (hcap : len ≤ cap ∧ cap ≤ maxLen ∧ (a = none → cap = 0)) (a2 : Option Addr) (len2 cap2 : Nat) (c : List Int) (hr2 : IntRow w a2 len2 c) (hf2 : Fits' c) (hcap2 : len2 ≤ cap2 ∧ cap2 ≤ maxLen ∧ (a2 = none → cap2 = 0)) :
    Calls Try.prog 5 #[.slice a len cap, .slice a2 len2 cap2] w fun e w' => e = .returned (.bool true) ∧ Below w.heap.size w w' := by
  clear hcap hcap2
  have HR := Lib.hid hr; have HR2 := Lib.hid hr2
  have HL := Lib.hid hr.1; have HL2 := Lib.hid hr2.1
  have HF2 := Lib.hid hf2
  have d5 : decide (300 < (len : Int)) = decide (300 < len) := by rw [Bool.eq_iff_iff]; simp; omega
  have d6 : decide (200 < (len2 : Int)) = decide (200 < len2) := by rw [Bool.eq_iff_iff]; simp; omega
  clear hr hr2 hf2
  by_cases h1 : 300 < len
  · rw [decide_eq_true h1] at d5
    clear h1 d6
    go_enter Try.func5, Try.ntmps5
    go_wp2_with (go_at_call 7; refine (law03_awake _).mono ?_; rintro e w' ⟨rfl, hbAw⟩)
    all_goals (go_returns; exact ⟨rfl, by (repeat (first | (with_reducible exact Below.refl _ _) | (with_reducible assumption) | (with_reducible refine below_alloc ?_ _) | (with_reducible refine below_drew ?_) | (with_reducible refine below_drewN ?_ _) | (with_reducible refine below_step ?_ (by with_reducible assumption))))⟩)
  · rw [decide_eq_false h1] at d5
    by_cases h2 : 200 < len2
    · rw [decide_eq_true h2] at d6
      clear h1 h2
      go_enter Try.func5, Try.ntmps5
      go_wp2_with (go_at_call 7; refine (law03_awake _).mono ?_; rintro e w' ⟨rfl, hbAw⟩)
      all_goals (go_returns; exact ⟨rfl, by (repeat (first | (with_reducible exact Below.refl _ _) | (with_reducible assumption) | (with_reducible refine below_alloc ?_ _) | (with_reducible refine below_drew ?_) | (with_reducible refine below_drewN ?_ _) | (with_reducible refine below_step ?_ (by with_reducible assumption))))⟩)
    · rw [decide_eq_false h2] at d6
      have hm : m.length ≤ 100000 := by rw [HL.out]; omega
      have K1 : Hid (aFull (aFrom m) len = true) := Lib.hid (by have := aFrom_full hm; rwa [HL.out] at this)
      have K2 : Hid (aModel (aFrom m) len = m) := Lib.hid (by have := aFrom_model hm; rwa [HL.out] at this)
      have K3 : Hid ((∀ x ∈ c, lcheck x len = 0) → aCl (aFrom m) c = if holdsC m c then 1 else -1) := Lib.hid (fun hc => aFrom_clause hm (by rw [HL.out]; exact hc))
      have KL : Hid ((aFrom m).length = len ∧ Fits' (aFrom m)) := Lib.hid ⟨by rw [aFrom_len hm, HL.out], fun x hx => by
        obtain ⟨i, hi, rfl⟩ := (aFrom_mem hm x).1 hx
        split <;> omega⟩
      have HM := Lib.hid (show len ≤ 1000000 ∧ len2 ≤ 1000000 by omega)
      clear h1 h2 hm
      go_enter Try.func5, Try.ntmps5
      go_wp2_with fail
      refine (asg_From _ _ _ m _ HR.out).mono ?_
      rintro e w1 ⟨v1, rfl, hv1, hb1⟩
      generalize aFrom m = L at K1 K2 K3 KL hv1
      obtain ⟨a5, l5, c5, rfl, _, _, r5⟩ := hv1.ints
      obtain rfl : l5 = len := by rw [← r5.1, KL.out.1]
      have R1 := Lib.hid r5
      have S1 := Lib.hid (HR.out.later hb1); have T1 := Lib.hid (HR2.out.later hb1)
      clear hv1 r5
      go_wp2_with fail
      refine (asg_Full _ _ _ L _ _ R1.out HM.out.1).mono ?_
      rintro e w2 ⟨rfl, hb2⟩
      rw [K1.out]
      have R2 := Lib.hid (R1.out.later hb2); have S2 := Lib.hid (S1.out.later hb2); have T2 := Lib.hid (T1.out.later hb2)
      have hB2 := below_step hb1 hb2
      clear hb1 hb2
      go_wp2_with fail
      refine (asg_Model _ _ _ L _ _ R2.out).mono ?_
      rintro e w3 ⟨v3, rfl, hv3, hb3⟩
      rw [K2.out] at hv3
      obtain ⟨a3, c3, rfl, _, _, r3⟩ := hv3.row
      have Q3 := Lib.hid r3
      have R3 := Lib.hid (R2.out.later hb3); have S3 := Lib.hid (S2.out.later hb3); have T3 := Lib.hid (T2.out.later hb3)
      have hB3 := below_step hB2 hb3
      clear hb3 hB2 hv3 r3
      go_wp2_with fail
      refine (same_Bools _ _ _ _ _ _ m m _ Q3.out S3.out).mono ?_
      rintro e w4 ⟨rfl, hb4⟩
      simp only [decide_true]
      have R4 := Lib.hid (R3.out.later hb4); have S4 := Lib.hid (S3.out.later hb4); have T4 := Lib.hid (T3.out.later hb4)
      have hB4 := below_step hB3 hb4
      clear hb4 hB3 Q3
      go_wp2_with fail
      go_loopw [6] (fun i wr => ∃ k : Nat, k ≤ len2 ∧ i = .int .i64 k ∧ (∀ j, j < k → lcheck (c.getD j 0) l5 = 0) ∧ w4 = wr) (fun i _ => len2 - (intOf i).toNat)
      case atStart => exact ⟨0, Nat.zero_le _, rfl, fun j hj => by omega, rfl⟩
      case round =>
        obtain ⟨k, hk, rfl, hall, rfl⟩ := hrel
        have HALL := Lib.hid hall; clear hall
        have hm2 := HM.out.2
        by_cases hlt : k < len2
        · obtain ⟨b, off, rfl, hcells⟩ := T4.out.2.2 (by omega)
          have hcell := hcells k hlt
          clear hcells
          by_cases hc : lcheck (c.getD k 0) l5 = 0
          · have hcb : (lcheck (c.getD k 0) l5 != 0) = false := by simpa using hc
            have HE : Hid (∀ j, j < k + 1 → lcheck (c.getD j 0) l5 = 0) := Lib.hid (fun j hj => by
              rcases Nat.lt_or_ge j k with h | h
              · exact HALL.out j h
              · rw [show j = k by omega]; exact hc)
            clear hc
            generalize hz : c.getD k 0 = z at *
            clear hz
            go_wp2_with (go_at_call 25; refine (ref_Check _ _ _).mono ?_; rintro e w' ⟨rfl, rfl⟩)
            go_roundw
            case rel => exact ⟨k + 1, by omega, by go_num, HE.out, by trivial⟩
            case measure => simp [intOf]; omega
          · have hcb : (lcheck (c.getD k 0) l5 != 0) = true := by simpa using hc
            clear hc
            generalize hz : c.getD k 0 = z at *
            clear hz
            go_wp2_with (first | (go_at_call 25; refine (ref_Check _ _ _).mono ?_; rintro e w' ⟨rfl, rfl⟩) | (go_at_call 7; refine (law03_awake _).mono ?_; rintro e w' ⟨rfl, hbAw⟩))
            go_returns
            exact ⟨rfl, by (repeat (first | (with_reducible exact Below.refl _ _) | (with_reducible assumption) | (with_reducible refine below_alloc ?_ _) | (with_reducible refine below_drew ?_) | (with_reducible refine below_drewN ?_ _) | (with_reducible refine below_step ?_ (by with_reducible assumption))))⟩
        · have hkc : k = len2 := by omega
          subst hkc
          have hcl := K3.out (all_at HL2.out HALL.out)
          cases hh : holdsC m c
          · rw [hh] at hcl
            have HH := Lib.hid hh; have HCL := Lib.hid hcl
            clear hh hcl
            go_wp2_with (go_at_call 26; refine (ref_Holds _ _ _ c _ _ _ m _ T4.out S4.out).mono ?_; rintro e w' ⟨rfl, rfl⟩; rw [HH.out])
            refine (asg_Clause _ _ _ L _ _ _ c _ R4.out T4.out HM.out.1 HM.out.2 KL.out.2 HF2.out).mono ?_
            rintro e w5 ⟨rfl, hb5⟩
            rw [HCL.out]
            go_wp2_with (go_at_call 7; refine (law03_awake _).mono ?_; rintro e w' ⟨rfl, hbAw⟩)
            go_returns
            exact ⟨rfl, by (repeat (first | (with_reducible exact Below.refl _ _) | (with_reducible assumption) | (with_reducible refine below_alloc ?_ _) | (with_reducible refine below_drew ?_) | (with_reducible refine below_drewN ?_ _) | (with_reducible refine below_step ?_ (by with_reducible assumption))))⟩
          · rw [hh] at hcl
            have HH := Lib.hid hh; have HCL := Lib.hid hcl
            clear hh hcl
            go_wp2_with (go_at_call 26; refine (ref_Holds _ _ _ c _ _ _ m _ T4.out S4.out).mono ?_; rintro e w' ⟨rfl, rfl⟩; rw [HH.out])
            refine (asg_Clause _ _ _ L _ _ _ c _ R4.out T4.out HM.out.1 HM.out.2 KL.out.2 HF2.out).mono ?_
            rintro e w5 ⟨rfl, hb5⟩
            rw [HCL.out]
            go_wp2_with (go_at_call 7; refine (law03_awake _).mono ?_; rintro e w' ⟨rfl, hbAw⟩)
            go_returns
            exact ⟨rfl, by (repeat (first | (with_reducible exact Below.refl _ _) | (with_reducible assumption) | (with_reducible refine below_alloc ?_ _) | (with_reducible refine below_drew ?_) | (with_reducible refine below_drewN ?_ _) | (with_reducible refine below_step ?_ (by with_reducible assumption))))⟩
end Go.Proofs.Ytmaaoijlchfdgaa
