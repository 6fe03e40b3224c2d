/- Layer 18: LubyPowers. -/
import Derived.Test.YtblncllnafjkmaaLaw18
namespace Go.Proofs.Ytblncllnafjkmaa
open Go.RowKit
set_option linter.unusedVariables false
set_option linter.unusedSimpArgs false

/-- What LubyPowers asks of Next. -/
theorem lnext_law {c u : Nat} (hc : c ≤ 10000) (hu1 : 1 ≤ u) (hu : u ≤ 1000000) : ∃ N m : Nat, lNext c u = (N : Int) ∧ N = u * m ∧ c < N ∧ N ≤ c + u * (c + 1) ∧ (N = u ∨ (N ≤ 1000000 ∧ lNext ((N : Int) - 1) u = N)) := by
  obtain ⟨h1, h2⟩ := lmany_is (c := c) (u := u) hu1
  have hok : lNextOk c u := ⟨by omega, by omega, by omega, by omega⟩
  have e1 : lNext c u = ((u * lsum (lmany c u) : Nat) : Int) := lNext_at hok h1 h2
  generalize hM : lmany c u = M at *
  refine ⟨u * lsum M, lsum M, e1, rfl, h1, ?_, ?_⟩
  · cases M with
    | zero => rw [lsum] at h1; omega
    | succ k =>
      have h3 := h2 k (by omega)
      have h4 := lsum_ge k
      have h5 := (lub_pow (k + 1) (by omega)).2.2
      have h6 : lsum k ≤ u * lsum k := Nat.le_mul_of_pos_left _ hu1
      have h7 : u * lub (k + 1) ≤ u * (c + 1) := Nat.mul_le_mul_left _ (by omega)
      rw [lsum, Nat.mul_add]; omega
  · rcases M with _ | _ | k
    · rw [lsum] at h1; omega
    · left; show u * (0 + lub 1) = u; rw [lub_1]; omega
    · right
      have h3 := h2 (k + 1) (by omega)
      have h4 := lsum_ge (k + 1)
      have h5 := (lub_pow (k + 1 + 1) (by omega)).2.2
      have h6 : u * lub (k + 1 + 1) ≤ u * (lsum (k + 1) + 1) := Nat.mul_le_mul_left _ (by omega)
      rw [Nat.mul_add, Nat.mul_one] at h6
      have h7 : u * 1 ≤ u * lsum (k + 1) := Nat.mul_le_mul_left _ (by omega)
      have h8 : u * lsum (k + 1 + 1) = u * lsum (k + 1) + u * lub (k + 1 + 1) := by rw [lsum, Nat.mul_add]
      have hN : u * lsum (k + 1 + 1) ≤ 1000000 := by omega
      refine ⟨hN, ?_⟩
      have h9 : lNext ((u * lsum (k + 1 + 1) - 1 : Nat) : Int) u = ((u * lsum (k + 1 + 1) : Nat) : Int) := by
        refine lNext_at ⟨by omega, by omega, by omega, by omega⟩ (by omega) (fun j hj => ?_)
        have := lsum_lt (m := j) (n := k + 1 + 1) hj
        have h10 : u * (lsum j + 1) ≤ u * lsum (k + 1 + 1) := Nat.mul_le_mul_left _ (by omega)
        rw [Nat.mul_add] at h10
        omega
      rw [← h9]; congr 1; omega

theorem lnext_num {c N T : Nat} (hc : c ≤ 10000) (h2 : N ≤ c + T) (hT : T ≤ 10001000000) : (N : Int) ≤ 20000000000 ∧ decide ((N : Int) - (c : Int) ≤ (T : Int)) = true := ⟨by omega, decide_eq_true (by omega)⟩
set_option maxRecDepth 100000 in
set_option maxHeartbeats 4000000 in
theorem lubyPowers_walk (w : World) (i : Int) (wi : (Lit.int .i64 i).wf = true) (c0 c1 : Int) (wc0 : (Lit.int .i64 c0).wf = true) (wc1 : (Lit.int .i64 c1).wf = true) :
    Calls Try.prog 5 #[.int .i64 i, .agg #[.int .i64 c0, .int .i64 c1]] w fun e w' => e = .returned (.bool true) ∧ Below w.heap.size w w' := by
  clear wi wc0 wc1
  have hb1 : Below w.heap.size w (w.alloc (.cells #[.int .i64 c0, .int .i64 c1] 22)) := by (repeat (first | (with_reducible exact Below.refl _ _) | (with_reducible assumption) | (with_reducible refine below_alloc ?_ _) | (with_reducible refine below_drew ?_) | (with_reducible refine below_drewN ?_ _) | (with_reducible refine below_step ?_ (by with_reducible assumption))))
  have hs1 := Blk.made w #[.int .i64 c0, .int .i64 c1] 22
  generalize hw1 : w.alloc (.cells #[.int .i64 c0, .int .i64 c1] 22) = W1 at *
  have HW1 := Lib.hid hw1; clear hw1
  have q0 := hs1.cell 0; have q1 := hs1.cell 1
  simp at q0 q1
  have hlt1 := hs1.lt
  clear hs1
  by_cases hg : i < 1 ∨ 5000 < i
  · have hd : decide (i < 1) = true ∨ (decide (i < 1) = false ∧ decide (5000 < i) = true) := by
      by_cases h : i < 1
      · exact Or.inl (decide_eq_true h)
      · exact Or.inr ⟨decide_eq_false h, decide_eq_true (by omega)⟩
    clear hg
    rcases hd with d1 | ⟨d1, d2⟩
    all_goals
      go_enter Try.func5, Try.ntmps5
      go_wp2_with (go_at_call 6; refine (law18_awake _).mono ?_; rintro e w' ⟨rfl, hbAw⟩)
      go_returns
      exact ⟨rfl, by (repeat (first | (with_reducible exact Below.refl _ _) | (with_reducible assumption) | (with_reducible refine below_alloc ?_ _) | (with_reducible refine below_drew ?_) | (with_reducible refine below_drewN ?_ _) | (with_reducible refine below_step ?_ (by with_reducible assumption))))⟩
  · obtain ⟨m, rfl⟩ : ∃ m : Nat, i = ((m + 1 : Nat) : Int) := ⟨(i - 1).toNat, by omega⟩
    have b2 : m < 5000 := by omega
    have d1 : decide ((m : Int) + 1 < 1) = false := decide_eq_false (by omega)
    have d2 : decide (5000 < (m : Int) + 1) = false := decide_eq_false (by omega)
    obtain ⟨⟨j, hj⟩, hx1, hx2⟩ := lub_pow (m + 1) (by omega)
    have ea : lAt ((m : Int) + 1) = (lub (m + 1) : Int) := lAt_succ m (by omega)
    have es1 : lSum ((m : Int) + 1) = ((lsum m + lub (m + 1) : Nat) : Int) := by
      unfold lSum; rw [if_neg (by omega), show ((m : Int) + 1).toNat = m + 1 by omega]; rfl
    have es2 : lSum (m : Int) = (lsum m : Int) := by
      unfold lSum
      by_cases h0 : m = 0
      · rw [if_pos (by omega), h0]; rfl
      · rw [if_neg (by omega), Int.toNat_natCast]
    have hand : bits .and .i64 (lub (m + 1) : Int) ((lub (m + 1) : Int) - 1) = 0 := by
      have h1 := and_nat (lub (m + 1)) (lub (m + 1) - 1) (by omega) (by omega)
      have h2 := land_pred j
      rw [← hj] at h2
      rw [h2] at h1
      rw [show ((lub (m + 1) : Int) - 1) = ((lub (m + 1) - 1 : Nat) : Int) by omega, h1]; rfl
    have hq := lsum_sq m
    have hq2 : m * m ≤ 5000 * 5000 := Nat.mul_le_mul (by omega) (by omega)
    have hSb : lsum m ≤ 25000000 := by omega
    clear hj hq hq2
    generalize lub (m + 1) = x at *
    generalize lsum m = S at *
    have d3 : decide ((x : Int) < 1) = false := decide_eq_false (by omega)
    have d4 : decide ((m : Int) + 1 < (x : Int)) = false := decide_eq_false (by omega)
    clear hg
    by_cases hc : (0 ≤ c0 ∧ c0 ≤ 10000) ∧ (1 ≤ c1 ∧ c1 ≤ 1000000)
    · obtain ⟨c, rfl⟩ : ∃ c : Nat, c0 = c := ⟨c0.toNat, by omega⟩
      obtain ⟨u, rfl⟩ : ∃ u : Nat, c1 = u := ⟨c1.toNat, by omega⟩
      obtain ⟨N, mm, en, en2, h1, h2, h3⟩ := lnext_law (c := c) (u := u) (by omega) (by omega) (by omega)
      have hT : u * (c + 1) ≤ 10001000000 := Nat.le_trans (Nat.mul_le_mul (show u ≤ 1000000 by omega) (show c + 1 ≤ 10001 by omega)) (by decide)
      have g1 : decide ((c : Int) < 0) = false := decide_eq_false (by omega)
      have g2 : decide (10000 < (c : Int)) = false := decide_eq_false (by omega)
      have g3 : decide ((u : Int) < 1) = false := decide_eq_false (by omega)
      have g4 : decide (1000000 < (u : Int)) = false := decide_eq_false (by omega)
      have g50 : decide (c < N) = true := decide_eq_true h1
      have g5 : decide ((c : Int) < (N : Int)) = true := decide_eq_true (by omega)
      have g6 : ((N : Int) % (u : Int) == 0) = true := by rw [en2]; simp
      have g7 : wrap64 ((u : Int) * ((c : Int) + 1)) = ((u * (c + 1) : Nat) : Int) := by
        rw [show (u : Int) * ((c : Int) + 1) = ((u * (c + 1) : Nat) : Int) by simp]
        exact IntWalk.wrap64_in _ ⟨by omega, by omega⟩
      have g8 : 0 < (u : Int) := by omega
      generalize u * (c + 1) = T at *
      obtain ⟨bN1, g9⟩ := lnext_num (c := c) (N := N) (T := T) (by omega) h2 hT
      have bc1 : (c : Int) ≤ 10000 := by omega
      have bc2 : (0 : Int) ≤ c := by omega
      have bN2 : (0 : Int) ≤ N := by omega
      clear hc en2 h1 h2 hT
      rcases h3 with h3 | ⟨h3, h4⟩
      · have g10 : ((N : Int) == (u : Int)) = true := by rw [h3]; simp
        clear h3
        go_enter Try.func5, Try.ntmps5
        go_wp2_with fail
        rw [HW1.out]
        go_wp2_with (first | (go_at_call 7; refine (lub_At _ _).mono ?_; rintro e w' ⟨rfl, rfl⟩; rw [ea]) | (go_at_call 12; refine (lub_Sum _ _).mono ?_; rintro e w' ⟨rfl, hbS⟩; have q0 := cell_later hbS q0; have q1 := cell_later hbS q1; first | rw [es1] | rw [es2]) | (go_at_call 14; refine (lub_Next _ _ _).mono ?_; rintro e w' ⟨rfl, hbS⟩; have q0 := cell_later hbS q0; have q1 := cell_later hbS q1; rw [en]) | (go_at_call 6; refine (law18_awake _).mono ?_; rintro e w' ⟨rfl, hbAw⟩))
        go_returns
        exact ⟨rfl, by (repeat (first | (with_reducible exact Below.refl _ _) | (with_reducible assumption) | (with_reducible refine below_alloc ?_ _) | (with_reducible refine below_drew ?_) | (with_reducible refine below_drewN ?_ _) | (with_reducible refine below_step ?_ (by with_reducible assumption))))⟩
      · by_cases hNu : N = u
        · have g10 : ((N : Int) == (u : Int)) = true := by rw [hNu]; simp
          clear h3 h4 hNu
          go_enter Try.func5, Try.ntmps5
          go_wp2_with fail
          rw [HW1.out]
          go_wp2_with (first | (go_at_call 7; refine (lub_At _ _).mono ?_; rintro e w' ⟨rfl, rfl⟩; rw [ea]) | (go_at_call 12; refine (lub_Sum _ _).mono ?_; rintro e w' ⟨rfl, hbS⟩; have q0 := cell_later hbS q0; have q1 := cell_later hbS q1; first | rw [es1] | rw [es2]) | (go_at_call 14; refine (lub_Next _ _ _).mono ?_; rintro e w' ⟨rfl, hbS⟩; have q0 := cell_later hbS q0; have q1 := cell_later hbS q1; rw [en]) | (go_at_call 6; refine (law18_awake _).mono ?_; rintro e w' ⟨rfl, hbAw⟩))
          go_returns
          exact ⟨rfl, by (repeat (first | (with_reducible exact Below.refl _ _) | (with_reducible assumption) | (with_reducible refine below_alloc ?_ _) | (with_reducible refine below_drew ?_) | (with_reducible refine below_drewN ?_ _) | (with_reducible refine below_step ?_ (by with_reducible assumption))))⟩
        · have g10 : ((N : Int) == (u : Int)) = false := by simp; omega
          clear h3 hNu
          go_enter Try.func5, Try.ntmps5
          go_wp2_with fail
          rw [HW1.out]
          go_wp2_with (first | (go_at_call 7; refine (lub_At _ _).mono ?_; rintro e w' ⟨rfl, rfl⟩; rw [ea]) | (go_at_call 12; refine (lub_Sum _ _).mono ?_; rintro e w' ⟨rfl, hbS⟩; have q0 := cell_later hbS q0; have q1 := cell_later hbS q1; first | rw [es1] | rw [es2]) | (go_at_call 14; refine (lub_Next _ _ _).mono ?_; rintro e w' ⟨rfl, hbS⟩; have q0 := cell_later hbS q0; have q1 := cell_later hbS q1; first | rw [en] | rw [h4]) | (go_at_call 6; refine (law18_awake _).mono ?_; rintro e w' ⟨rfl, hbAw⟩))
          go_returns
          exact ⟨rfl, by (repeat (first | (with_reducible exact Below.refl _ _) | (with_reducible assumption) | (with_reducible refine below_alloc ?_ _) | (with_reducible refine below_drew ?_) | (with_reducible refine below_drewN ?_ _) | (with_reducible refine below_step ?_ (by with_reducible assumption))))⟩
    · have hd : decide (c0 < 0) = true ∨ (decide (c0 < 0) = false ∧ decide (10000 < c0) = true) ∨ (decide (c0 < 0) = false ∧ decide (10000 < c0) = false ∧ decide (c1 < 1) = true) ∨ (decide (c0 < 0) = false ∧ decide (10000 < c0) = false ∧ decide (c1 < 1) = false ∧ decide (1000000 < c1) = true) := by
        simp only [decide_eq_true_eq, decide_eq_false_iff_not]
        omega
      clear hc
      rcases hd with g1 | ⟨g1, g2⟩ | ⟨g1, g2, g3⟩ | ⟨g1, g2, g3, g4⟩
      all_goals
        go_enter Try.func5, Try.ntmps5
        go_wp2_with fail
        rw [HW1.out]
        go_wp2_with (first | (go_at_call 7; refine (lub_At _ _).mono ?_; rintro e w' ⟨rfl, rfl⟩; rw [ea]) | (go_at_call 12; refine (lub_Sum _ _).mono ?_; rintro e w' ⟨rfl, hbS⟩; have q0 := cell_later hbS q0; have q1 := cell_later hbS q1; first | rw [es1] | rw [es2]) | (go_at_call 6; refine (law18_awake _).mono ?_; rintro e w' ⟨rfl, hbAw⟩))
        go_returns
        exact ⟨rfl, by (repeat (first | (with_reducible exact Below.refl _ _) | (with_reducible assumption) | (with_reducible refine below_alloc ?_ _) | (with_reducible refine below_drew ?_) | (with_reducible refine below_drewN ?_ _) | (with_reducible refine below_step ?_ (by with_reducible assumption))))⟩
end Go.Proofs.Ytblncllnafjkmaa
