/- The contracts of the reference's First, Sum and Next. -/
import Derived.Test.YtblncllnafjkmaaLubW
namespace Go.Proofs.Ytblncllnafjkmaa
open Go.RowKit
set_option linter.unusedVariables false
set_option linter.unusedSimpArgs false

def lubUp (k : Nat) : List Int := (List.range k).map fun i => (lub (i + 1) : Int)
theorem lubUp_succ (k : Nat) : lubUp (k + 1) = lubUp k ++ [(lub (k + 1) : Int)] := by unfold lubUp; rw [List.range_succ, List.map_append]; rfl
theorem lubUp_len (k : Nat) : (lubUp k).length = k := by simp [lubUp]
theorem lFirst_up (n : Nat) (h1 : 1 ≤ n) (h2 : n ≤ 100000) : lFirst n = lubUp n := by unfold lFirst; rw [if_neg (by omega)]; rfl

set_option maxRecDepth 100000 in
theorem rlub_First_yes (n : Nat) (w : World) (h1 : 1 ≤ n) (h2 : n ≤ 100000) : Calls Try.prog 11 #[.int .i64 n] w fun e w' => ∃ v, e = .returned v ∧ OwnInts w' w.heap.size v (lFirst n) ∧ Below w.heap.size w w' := by
  have d2 : decide ((n : Int) ≤ 100000) = true := decide_eq_true (by omega)
  have HF := Lib.hid (lFirst_up n h1 h2)
  go_enter Try.func11, Try.ntmps11
  go_wp2_with fail
  go_loopw [3, 4] (fun v i wr => ∃ k : Nat, k ≤ n ∧ i = .int .i64 ((k + 1 : Nat) : Int) ∧ OwnInts wr w.heap.size v (lubUp k) ∧ Below w.heap.size w wr) (fun _ i _ => n + 1 - (intOf i).toNat)
  case atStart => exact ⟨0, Nat.zero_le _, rfl, OwnInts.nil _ _, Below.refl _ _⟩
  case round =>
    obtain ⟨k, hk, rfl, hl, hbr⟩ := hrel
    by_cases hlt : k < n
    · have d1 : decide ((k : Int) + 1 ≤ (n : Int)) = true := decide_eq_true (by omega)
      have HS := Lib.hid (lubUp_succ k)
      have HN := Lib.hid (lubUp_len k)
      generalize lubUp k = X at *
      generalize hX2 : lubUp (k + 1) = X2 at *
      have HX2 := Lib.hid hX2
      clear hX2
      unfold OwnInts at hl
      rw [HN.out] at hl
      have hsz := hbr.size
      have ea : lAt ((k : Int) + 1) = (lub (k + 1) : Int) := by unfold lAt; rw [if_neg (by omega)]; congr 2
      generalize (lub (k + 1) : Int) = L at *
      go_wp2_with (first | (go_at_call 8; refine (rlub_At _ _).mono ?_; rintro e w' ⟨rfl, rfl⟩; rw [ea]) | (at_builtin; refine wpList_app rfl _ _ 26 rfl w.heap.size 3 (.int .i64 0) 1 8 Try.underlying26 info_int rfl (by decide) _ _ _ rfl (hl.alloc _) (some ⟨wr.heap.size, 0, none⟩) 1 1 [.int .i64 (L)] rfl ?c0 rfl ?c1 ?c2 ?c3 ?c4 ?c5 ?_))
      (case c0 => exact fun h => by cases h); (case c1 => exact CellRow.made wr _ _); (case c2 => intro u hu; simp at hu; subst hu; rfl); (case c3 => unfold maxLen; omega); (case c4 => omega); (case c5 => simp; omega)
      intro v' w1 hown1 hgr
      obtain ⟨hnew, hbw⟩ := OwnInts.push HN.out hbr hl _ hown1 hgr
      rw [← HS.out] at hnew
      have HN2 := Lib.hid hnew
      clear hown1 hgr hl hnew
      go_wp2_with fail
      go_roundw
      case rel => exact ⟨k + 1, by omega, by go_num, by rw [HX2.out]; exact HN2.out, hbw⟩
      case measure => simp [intOf]; omega
    · have d1 : decide ((k : Int) + 1 ≤ (n : Int)) = false := decide_eq_false (by omega)
      have hkn : k = n := by omega
      subst hkn
      go_wp2_with fail
      go_ret
      exact ⟨_, rfl, by rw [HF.out]; exact hl, hbr⟩
theorem rlub_First_no (n : Int) (w : World) (h : n < 1 ∨ 100000 < n) : Calls Try.prog 11 #[.int .i64 n] w fun e w' => e = .returned (.slice none 0 0) ∧ Below w.heap.size w w' := by
  rcases h with h | h
  · have d1 : decide ((1 : Int) ≤ n) = false := decide_eq_false (by omega)
    go_enter Try.func11, Try.ntmps11
    go_wp2_with fail
    refine wp_loop_rounds 1 ?_
    rw [rounds_succ]
    go_wp2_with fail
    go_returns
    exact ⟨rfl, Below.refl _ _⟩
  · have d1 : decide ((1 : Int) ≤ n) = true := decide_eq_true (by omega)
    have d2 : decide (n ≤ 100000) = false := decide_eq_false (by omega)
    go_enter Try.func11, Try.ntmps11
    go_wp2_with fail
    refine wp_loop_rounds 1 ?_
    rw [rounds_succ]
    go_wp2_with fail
    go_returns
    exact ⟨rfl, Below.refl _ _⟩
theorem rlub_First (n : Int) (w : World) : Calls Try.prog 11 #[.int .i64 n] w fun e w' => ∃ v, e = .returned v ∧ OwnInts w' w.heap.size v (lFirst n) ∧ Below w.heap.size w w' := by
  by_cases h : n < 1 ∨ 100000 < n
  · refine (rlub_First_no n w h).mono ?_
    rintro e w' ⟨rfl, hb⟩
    exact ⟨_, rfl, by unfold lFirst; rw [if_pos h]; exact OwnInts.nil _ _, hb⟩
  · obtain ⟨m, rfl⟩ : ∃ m : Nat, n = m := ⟨n.toNat, by omega⟩
    exact rlub_First_yes m w (by omega) (by omega)

theorem rlub_Sum_no (n : Int) (w : World) (h : n < 1 ∨ 100000 < n) : Calls Try.prog 13 #[.int .i64 n] w fun e w' => e = .returned (.int .i64 0) ∧ w = w' := by
  rcases h with h | h
  · have d1 : decide ((1 : Int) ≤ n) = false := decide_eq_false (by omega)
    go_enter Try.func13, Try.ntmps13
    go_wp2_with fail
    refine wp_loop_rounds 1 ?_
    rw [rounds_succ]
    go_wp2_with fail
    go_returns
    exact ⟨rfl, rfl⟩
  · have d1 : decide ((1 : Int) ≤ n) = true := decide_eq_true (by omega)
    have d2 : decide (n ≤ 100000) = false := decide_eq_false (by omega)
    go_enter Try.func13, Try.ntmps13
    go_wp2_with fail
    refine wp_loop_rounds 1 ?_
    rw [rounds_succ]
    go_wp2_with fail
    go_returns
    exact ⟨rfl, rfl⟩
theorem lAt_succ (k : Nat) (h : k < 1000000000) : lAt ((k : Int) + 1) = (lub (k + 1) : Int) := by unfold lAt; rw [if_neg (by omega)]; congr 2
theorem rlub_Sum_yes (n : Nat) (w : World) (h1 : 1 ≤ n) (h2 : n ≤ 100000) : Calls Try.prog 13 #[.int .i64 n] w fun e w' => e = .returned (.int .i64 (lsum n : Int)) ∧ w = w' := by
  have d2 : decide ((n : Int) ≤ 100000) = true := decide_eq_true (by omega)
  go_enter Try.func13, Try.ntmps13
  go_wp2_with fail
  go_loop [3, 4] (fun v i => ∃ k : Nat, k ≤ n ∧ i = .int .i64 ((k + 1 : Nat) : Int) ∧ v = .int .i64 (lsum k : Int)) (fun _ i => n + 1 - (intOf i).toNat)
  case atStart => exact ⟨0, Nat.zero_le _, rfl, rfl⟩
  case round =>
    obtain ⟨k, hk, rfl, rfl⟩ := hrel
    by_cases hlt : k < n
    · have d1 : decide ((k : Int) + 1 ≤ (n : Int)) = true := decide_eq_true (by omega)
      have hq := lsum_sq k
      have hq2 : k * k ≤ 100000 * 100000 := Nat.mul_le_mul (by omega) (by omega)
      have hl := (lub_pow (k + 1) (by omega)).2
      have ea := lAt_succ k (by omega)
      have HS : Hid (lsum (k + 1) = lsum k + lub (k + 1)) := Lib.hid rfl
      generalize lub (k + 1) = L at *
      generalize lsum k = S at *
      go_wp2_with (go_at_call 8; refine (rlub_At _ _).mono ?_; rintro e w' ⟨rfl, rfl⟩; rw [ea])
      go_round
      case rel => exact ⟨k + 1, by omega, by go_num, by rw [HS.out]; go_num⟩
      case measure => simp [intOf]; omega
    · have d1 : decide ((k : Int) + 1 ≤ (n : Int)) = false := decide_eq_false (by omega)
      have hkn : k = n := by omega
      subst hkn
      go_wp2_with fail
      go_ret
      exact ⟨rfl, rfl⟩
theorem rlub_Sum (n : Int) (w : World) : Calls Try.prog 13 #[.int .i64 n] w fun e w' => e = .returned (.int .i64 (lSum n)) ∧ w = w' := by
  unfold lSum
  by_cases h : n < 1 ∨ 100000 < n
  · rw [if_pos h]; exact rlub_Sum_no n w h
  · rw [if_neg h]
    obtain ⟨m, rfl⟩ : ∃ m : Nat, n = m := ⟨n.toNat, by omega⟩
    rw [Int.toNat_natCast]
    exact rlub_Sum_yes m w (by omega) (by omega)

theorem rlub_Next_no (c u : Int) (w : World) (h : ¬ lNextOk c u) : Calls Try.prog 15 #[.int .i64 c, .int .i64 u] w fun e w' => e = .returned (.int .i64 0) ∧ w = w' := by
  rcases lNext_no h with h | ⟨h, h2⟩ | ⟨h, h2, h3⟩ | ⟨h, h2, h3, h4⟩
  all_goals
    go_enter Try.func15, Try.ntmps15
    go_wp2_with fail
    all_goals (go_returns; exact ⟨rfl, rfl⟩)
set_option maxHeartbeats 1000000 in
theorem rlub_Next_yes (c u : Nat) (w : World) (h : lNextOk c u) : Calls Try.prog 15 #[.int .i64 c, .int .i64 u] w fun e w' => e = .returned (.int .i64 ((u * lsum (lmany c u) : Nat) : Int)) ∧ w = w' := by
  obtain ⟨h1, h2, h3, h4⟩ := h
  have d1 : decide ((c : Int) < 0) = false := decide_eq_false (by omega)
  have d2 : decide (1000000 < (c : Int)) = false := decide_eq_false (by omega)
  have d3 : decide ((u : Int) < 1) = false := decide_eq_false (by omega)
  have d4 : decide (1000000 < (u : Int)) = false := decide_eq_false (by omega)
  go_enter Try.func15, Try.ntmps15
  go_wp2_with fail
  clear d1 d2 d3 d4
  go_loop [5, 6] (fun v i => ∃ k S : Nat, (∀ j, j < k → u * lsum j ≤ c) ∧ i = .int .i64 ((k + 1 : Nat) : Int) ∧ v = .int .i64 (S : Int) ∧ S = u * lsum k) (fun v _ => c + 1 - (intOf v).toNat)
  case atStart => exact ⟨0, 0, (fun j hj => by omega), rfl, rfl, by rw [lsum, Nat.mul_zero]⟩
  case round =>
    obtain ⟨k, S, hall, rfl, rfl, hS⟩ := hrel
    have HA := Lib.hid hall
    clear hall
    by_cases hlt : S ≤ c
    · have d1 : decide ((S : Int) ≤ (c : Int)) = true := decide_eq_true (by omega)
      have hx := lnext_step (c := c) (u := u) (k := k) (by omega) (by omega) (by omega) (by omega)
      obtain ⟨hx1, hx2, hx3⟩ := hx
      have HX := Lib.hid hx3
      have ea := lAt_succ k (by omega)
      have hpos : 0 < u * lub (k + 1) := Nat.mul_pos (by omega) (by have := (lub_pow (k + 1) (by omega)).2.1; omega)
      have e1 : wrap64 ((u : Int) * (lub (k + 1) : Int)) = ((u * lub (k + 1) : Nat) : Int) := by rw [← Int.natCast_mul]; exact IntWalk.wrap64_in _ ⟨by omega, by omega⟩
      generalize hT : u * lub (k + 1) = T at *
      generalize lub (k + 1) = L at *
      have HS := Lib.hid hS
      clear hT hS hx3
      go_wp2_with (go_at_call 8; refine (rlub_At _ _).mono ?_; rintro e w' ⟨rfl, rfl⟩; rw [ea])
      go_round
      case rel => exact ⟨k + 1, S + T, (fun j hj => by
        rcases Nat.lt_or_ge j k with h | h
        · exact HA.out j h
        · rw [show j = k by omega, ← HS.out]; exact hlt), by go_num, by go_num, by rw [HX.out, HS.out]⟩
      case measure => simp [intOf]; omega
    · have d1 : decide ((S : Int) ≤ (c : Int)) = false := decide_eq_false (by omega)
      have HM := Lib.hid (lmany_eq (c := c) (u := u) (m := k) (by omega) (by omega) HA.out)
      have HS := Lib.hid hS
      clear hS
      go_wp2_with fail
      go_ret
      exact ⟨ret_int (by rw [HM.out]; have h9 := HS.out; exact_mod_cast h9), rfl⟩
theorem rlub_Next (c u : Int) (w : World) : Calls Try.prog 15 #[.int .i64 c, .int .i64 u] w fun e w' => e = .returned (.int .i64 (lNext c u)) ∧ w = w' := by
  unfold lNext
  by_cases h : lNextOk c u
  · rw [if_pos h]
    have h2 := h
    unfold lNextOk at h2
    obtain ⟨m, rfl⟩ : ∃ m : Nat, c = m := ⟨c.toNat, by omega⟩
    obtain ⟨n, rfl⟩ : ∃ n : Nat, u = n := ⟨u.toNat, by omega⟩
    exact rlub_Next_yes m n w h
  · rw [if_neg h]; exact rlub_Next_no c u w h
end Go.Proofs.Ytblncllnafjkmaa
