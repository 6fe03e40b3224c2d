/- The contracts of luby.At and of its reference. -/
import Derived.Test.YtblncllnafjkmaaLubB
import Derived.Test.YtblncllnafjkmaaOwn
namespace Go.Proofs.Ytblncllnafjkmaa
open Go.RowKit
set_option linter.unusedVariables false
set_option linter.unusedSimpArgs false

theorem lub_At_no (i : Int) (w : World) (h : i < 1 ∨ 1000000000 < i) : Calls Try.prog 7 #[.int .i64 i] w fun e w' => e = .returned (.int .i64 0) ∧ w = w' := by
  rcases h with h | h
  · go_enter Try.func7, Try.ntmps7
    go_wp2_with fail
    go_returns
    exact ⟨rfl, rfl⟩
  · have h2 : ¬ i < 1 := by omega
    go_enter Try.func7, Try.ntmps7
    go_wp2_with fail
    go_returns
    exact ⟨rfl, rfl⟩
set_option maxRecDepth 100000 in
theorem lub_At_yes (i : Nat) (w : World) (h1 : 1 ≤ i) (h2 : i ≤ 1000000000) : Calls Try.prog 7 #[.int .i64 i] w fun e w' => e = .returned (.int .i64 (lub i : Int)) ∧ w = w' := by
  have d1 : decide ((i : Int) < 1) = false := decide_eq_false (by omega)
  have d2 : decide (1000000000 < (i : Int)) = false := decide_eq_false (by omega)
  go_enter Try.func7, Try.ntmps7
  go_wp2_with fail
  clear d1 d2
  go_loop [0] (fun v => ∃ j : Nat, 1 ≤ j ∧ j ≤ i ∧ v = .int .i64 j ∧ lub j = lub i) (fun v => (intOf v).toNat)
  case atStart => exact ⟨i, h1, Nat.le_refl _, rfl, rfl⟩
  case round =>
    obtain ⟨j, hj1, hj2, rfl, hl⟩ := hrel
    have hand := and_nat j (j + 1) (by omega) (by omega)
    have hn := land_next j (by omega)
    push_cast at hand
    by_cases hz : j &&& (j + 1) = 0
    · have HB : Hid ((bits .and .i64 (j : Int) ((j : Int) + 1) != 0) = false) := Lib.hid (by rw [hand, hz]; rfl)
      have HE := Lib.hid (hn.1 hz)
      have HL := Lib.hid hl
      clear hn hz hl hand
      have hb := HB.out
      go_wp2_with fail
      go_ret
      refine ⟨ret_int ?_, rfl⟩
      have h3 := lub_top (Nat.log2 j)
      rw [← HE.out, Nat.add_sub_cancel] at h3
      have h4 := HE.out
      rw [← HL.out, h3]
      rw [Nat.pow_succ] at h4
      omega
    · have HB : Hid ((bits .and .i64 (j : Int) ((j : Int) + 1) != 0) = true) := Lib.hid (by rw [hand]; simp; omega)
      have hne := fun h => hz (hn.2 h)
      have g1 := Nat.log2_self_le (n := j) (by omega)
      have g2 := Nat.lt_log2_self (n := j)
      have g3 : Nat.log2 j < 30 := (Nat.log2_lt (by omega)).2 (by omega)
      have HL : Hid (lub (j + 1 - 2 ^ Nat.log2 j) = lub i) := Lib.hid (by rw [← lub_rec g1 (by omega)]; exact hl)
      clear hn hz hl hand hne
      have hb := HB.out
      go_wp2_with (go_at_call 16; refine (bits_Len j _ (by omega) (by omega)).mono ?_; rintro e w' ⟨rfl, rfl⟩)
      have hp := Nat.two_pow_pos (Nat.log2 j)
      have h2 : 2 ≤ 2 ^ Nat.log2 j := by
        have e0 : 1 ≤ Nat.log2 j := (Nat.le_log2 (by omega)).2 (by
          by_cases e1 : j = 1
          · subst e1; exact absurd HB.out (by decide)
          · omega)
        exact Nat.pow_le_pow_right (n := 2) (by decide) e0
      have e1 : ((2 : Int) ^ Nat.log2 j) = ((2 ^ Nat.log2 j : Nat) : Int) := by push_cast; rfl
      rw [e1]
      have HL2 := HL.out
      have hb2 : j + 1 - 2 ^ Nat.log2 j ≤ j := by omega
      generalize 2 ^ Nat.log2 j = P at *
      have e2 : wrap64 (P : Int) = P := IntWalk.wrap64_in _ ⟨by omega, by omega⟩
      rw [e2]
      have e3 : wrap64 ((P : Int) - 1) = P - 1 := IntWalk.wrap64_in _ ⟨by omega, by omega⟩
      rw [e3]
      have e4 : wrap64 ((j : Int) - (P - 1)) = ((j + 1 - P : Nat) : Int) := by rw [IntWalk.wrap64_in _ ⟨by omega, by omega⟩]; omega
      rw [e4]
      exact ⟨⟨j + 1 - P, by omega, by omega, rfl, HL2⟩, by simp [intOf]; omega⟩
theorem lub_At (i : Int) (w : World) : Calls Try.prog 7 #[.int .i64 i] w fun e w' => e = .returned (.int .i64 (lAt i)) ∧ w = w' := by
  unfold lAt
  by_cases h : i < 1 ∨ 1000000000 < i
  · rw [if_pos h]; exact lub_At_no i w h
  · rw [if_neg h]
    obtain ⟨n, rfl⟩ : ∃ n : Nat, i = n := ⟨i.toNat, by omega⟩
    rw [Int.toNat_natCast]
    exact lub_At_yes n w (by omega) (by omega)

/-! ### the reference -/
theorem rlub_At_no (i : Int) (w : World) (h : i < 1 ∨ 1000000000 < i) : Calls Try.prog 8 #[.int .i64 i] w fun e w' => e = .returned (.int .i64 0) ∧ w = w' := by
  rcases h with h | h
  · go_enter Try.func8, Try.ntmps8
    go_wp2_with fail
    go_returns
    exact ⟨rfl, rfl⟩
  · have h2 : ¬ i < 1 := by omega
    go_enter Try.func8, Try.ntmps8
    go_wp2_with fail
    go_returns
    exact ⟨rfl, rfl⟩
set_option maxRecDepth 100000 in
theorem rlub_At_yes (i : Nat) (w : World) (h1 : 1 ≤ i) (h2 : i ≤ 1000000000) : Calls Try.prog 8 #[.int .i64 i] w fun e w' => e = .returned (.int .i64 (lub i : Int)) ∧ w = w' := by
  have d1 : decide ((i : Int) < 1) = false := decide_eq_false (by omega)
  have d2 : decide (1000000000 < (i : Int)) = false := decide_eq_false (by omega)
  go_enter Try.func8, Try.ntmps8
  go_wp2_with fail
  clear d1 d2
  go_loop [0, 3, 4] (fun v n _ => ∃ j k : Nat, 1 ≤ j ∧ j < 2 ^ (30 - k) ∧ k ≤ 30 ∧ v = .int .i64 j ∧ n = .int .i64 k ∧ lub j = lub i) (fun _ n _ => 64 - (intOf n).toNat)
  case atStart => exact ⟨i, 0, h1, by omega, by omega, rfl, rfl, rfl⟩
  case round =>
    obtain ⟨j, k, hj1, hj2, hk, rfl, rfl, hl⟩ := hrel
    have HL := Lib.hid hl
    have HJ := Lib.hid hj2
    have hk30 : k < 30 := by
      rcases Nat.lt_or_ge k 30 with h | h
      · exact h
      · rw [show 30 - k = 0 by omega] at hj2; omega
    have hj3 : j < 1073741824 := Nat.lt_of_lt_of_le hj2 (by have := Nat.pow_le_pow_right (n := 2) (by decide) (show 30 - k ≤ 30 by omega); omega)
    clear hl hj2
    go_wp2_with fail
    go_loop [4] (fun p => ∃ m : Nat, 2 ^ m ≤ j ∧ p = .int .i64 ((2 ^ m : Nat) : Int)) (fun p => 2 * j - (intOf p).toNat)
    case atStart => exact ⟨0, by simpa using hj1, rfl⟩
    case round =>
      obtain ⟨m, hm, rfl⟩ := hrel
      have hp := Nat.two_pow_pos m
      have e : 2 ^ (m + 1) = 2 * 2 ^ m := by rw [Nat.pow_succ]; omega
      have hs1 : 2 ^ (m + 1) - 1 = j → lub j = 2 ^ m := fun h => by rw [← h]; exact lub_top m
      have hs2 : 2 ^ m ≤ j → j + 1 < 2 ^ (m + 1) → lub j = lub (j + 1 - 2 ^ m) := lub_rec
      have hs3 : j < 2 ^ (m + 1) → 2 ^ m ≤ 2 ^ (30 - (k + 1)) := fun h => by
        have h9 := HJ.out
        have h8 : m < 30 - k := Nat.pow_lt_pow_iff_right (a := 2) (by decide) |>.1 (Nat.lt_of_le_of_lt hm h9)
        exact Nat.pow_le_pow_right (by decide) (by omega)
      have H1 := Lib.hid hs1; have H2 := Lib.hid hs2; have H3 := Lib.hid hs3; have HE := Lib.hid e
      have h9 : 2 ^ (m + 1) ≤ j → Hid (2 ^ (m + 1) ≤ j) := fun h => Lib.hid h
      clear hs1 hs2 hs3
      rw [e] at h9
      clear e
      generalize hP : 2 ^ m = P at *
      have HP := Lib.hid hP; clear hP
      by_cases c1 : 2 * P - 1 < j
      · have HC := h9 (by omega)
        clear h9
        have d1 : decide (2 * (P : Int) - 1 < (j : Int)) = true := decide_eq_true (by omega)
        go_wp2_with fail
        go_round
        case rel => exact ⟨m + 1, by rw [HE.out]; exact HC.out, by rw [HE.out]; go_num⟩
        case measure => simp [intOf]; omega
      · clear h9
        have d1 : decide (2 * (P : Int) - 1 < (j : Int)) = false := decide_eq_false (by omega)
        by_cases c2 : 2 * P - 1 = j
        · have d2 : (2 * (P : Int) - 1 == (j : Int)) = true := by simp; omega
          go_wp2_with fail
          go_ret
          refine ⟨ret_int ?_, rfl⟩
          rw [← HL.out, H1.out (by rw [HE.out]; exact c2)]
        · have d2 : (2 * (P : Int) - 1 == (j : Int)) = false := by simp; omega
          have HX : Hid (lub (j + 1 - P) = lub i) := Lib.hid (by rw [← H2.out hm (by rw [HE.out]; omega)]; exact HL.out)
          have HY : Hid (P ≤ 2 ^ (30 - (k + 1))) := Lib.hid (H3.out (by rw [HE.out]; omega))
          go_wp2_with fail
          go_round
          case rel => exact ⟨j + 1 - P, k + 1, by omega, by have := HY.out; omega, by omega, by go_num, by go_num, HX.out⟩
          case measure => simp [intOf]; omega
theorem rlub_At (i : Int) (w : World) : Calls Try.prog 8 #[.int .i64 i] w fun e w' => e = .returned (.int .i64 (lAt i)) ∧ w = w' := by
  unfold lAt
  by_cases h : i < 1 ∨ 1000000000 < i
  · rw [if_pos h]; exact rlub_At_no i w h
  · rw [if_neg h]
    obtain ⟨n, rfl⟩ : ∃ n : Nat, i = n := ⟨i.toNat, by omega⟩
    rw [Int.toNat_natCast]
    exact rlub_At_yes n w (by omega) (by omega)
end Go.Proofs.Ytblncllnafjkmaa
