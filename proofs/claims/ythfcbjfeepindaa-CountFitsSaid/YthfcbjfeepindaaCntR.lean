/- The contracts of the reference's sums of layer 36. -/
import Derived.Test.YthfcbjfeepindaaCntV
import Derived.Test.YthfcbjfeepindaaNumN
namespace Go.Proofs.Ythfcbjfeepindaa
open Go.RowKit
set_option linter.unusedVariables false
set_option linter.unusedSimpArgs false

theorem rcnt_Places (n : Nat) (s : Int) (hok : nOk n s) (w : World) : Calls Try.prog 61 #[.int .i64 n, .int .i64 s] w fun e w' => e = .returned (.int .i64 (cP n)) ∧ w = w' := by
  have hn : n ≤ 64 := by have := hok.2.1; omega
  have hk : (nCheck n s != 0) = false := by rw [nCheck_yes hok]; rfl
  have h2 := n_tri hn
  have e0 : wrap64 ((n : Int) * n) = n * n := by rw [wmulN (by have := Nat.mul_le_mul hn hn; omega)]; push_cast; rfl
  have e1 : wrap64 ((n : Int) * n * (n - 1)) = 2 * ((n * tri n : Nat) : Int) := by
    rw [Int.mul_assoc, tri_int, show (n : Int) * (2 * (tri n : Int)) = 2 * ((n * tri n : Nat) : Int) by rw [Int.mul_left_comm]; push_cast; rfl]
    generalize n * tri n = T at *
    exact IntWalk.wrap64_in _ ⟨by omega, by omega⟩
  have e2 : (n : Int) + 2 * ((n * tri n : Nat) : Int) = cP n := by
    unfold cP
    generalize n * tri n = T at *
    omega
  generalize hC : cP n = C at *
  generalize hT : n * tri n = T at *
  clear hC hT
  go_enter Try.func61, Try.ntmps61
  go_wp2_with (go_at_call 26; refine (ref_Check31 _ _ _).mono ?_; rintro e w' ⟨rfl, rfl⟩)
  go_returns
  exact ⟨rfl, rfl⟩
theorem rcnt_Places_no (n s : Int) (hok : ¬ nOk n s) (w : World) : Calls Try.prog 61 #[.int .i64 n, .int .i64 s] w fun e w' => e = .returned (.int .i64 0) ∧ w = w' := by
  have hk : (nCheck n s != 0) = true := by rw [nCheck_no hok]; rfl
  go_enter Try.func61, Try.ntmps61
  go_wp2_with (go_at_call 26; refine (ref_Check31 _ _ _).mono ?_; rintro e w' ⟨rfl, rfl⟩)
  go_returns
  exact ⟨rfl, rfl⟩
theorem rcnt_Times (n : Nat) (s : Int) (p : Nat) (hok : tmOk n s p) (w : World) : Calls Try.prog 63 #[.int .i64 n, .int .i64 s, .int .i64 p] w fun e w' => e = .returned (.int .i64 ((tri n * p : Nat) : Int)) ∧ w = w' := by
  have hn : n ≤ 64 := by have := hok.1.2.1; omega
  have hp : p ≤ 2016 := by have := hok.2.2; omega
  have hk : (nCheck n s != 0) = false := by rw [nCheck_yes hok.1]; rfl
  have h1 := tri_le hn
  have h2 := tri_mul hn hp
  have d1 : decide ((p : Int) < 0) = false := decide_eq_false (by omega)
  have d2 : decide (2016 < (p : Int)) = false := decide_eq_false (by omega)
  have e0 := tri_int n
  have e2 : wrap64 ((n : Int) * (n - 1)) = 2 * tri n := by rw [e0]; exact IntWalk.wrap64_in _ ⟨by omega, by omega⟩
  have e1 : wrap64 ((tri n : Int) * p) = ((tri n * p : Nat) : Int) := by rw [← Int.natCast_mul]; exact IntWalk.wrap64_in _ ⟨by omega, by omega⟩
  generalize tri n * p = T at *
  go_enter Try.func63, Try.ntmps63
  go_wp2_with (go_at_call 26; refine (ref_Check31 _ _ _).mono ?_; rintro e w' ⟨rfl, rfl⟩)
  go_returns
  exact ⟨ret_int e1, rfl⟩
theorem rcnt_Times_no (n s p : Int) (hok : ¬ tmOk n s p) (w : World) : Calls Try.prog 63 #[.int .i64 n, .int .i64 s, .int .i64 p] w fun e w' => e = .returned (.int .i64 0) ∧ w = w' := by
  have hcase : ¬ nOk n s ∨ (nOk n s ∧ p < 0) ∨ (nOk n s ∧ 0 ≤ p ∧ 2016 < p) := by
    unfold tmOk at hok
    by_cases h : nOk n s
    · exact Or.inr (by by_cases hp : p < 0; exact Or.inl ⟨h, hp⟩; exact Or.inr ⟨h, by omega, Int.not_le.1 fun h2 => hok ⟨h, by omega, h2⟩⟩)
    · exact Or.inl h
  clear hok
  rcases hcase with h | ⟨h, h1⟩ | ⟨h, h1, h2⟩
  · have hk : (nCheck n s != 0) = true := by rw [nCheck_no h]; rfl
    go_enter Try.func63, Try.ntmps63
    go_wp2_with (go_at_call 26; refine (ref_Check31 _ _ _).mono ?_; rintro e w' ⟨rfl, rfl⟩)
    go_returns
    exact ⟨rfl, rfl⟩
  · have hk : (nCheck n s != 0) = false := by rw [nCheck_yes h]; rfl
    have d1 : decide (p < 0) = true := by simpa using h1
    go_enter Try.func63, Try.ntmps63
    go_wp2_with (go_at_call 26; refine (ref_Check31 _ _ _).mono ?_; rintro e w' ⟨rfl, rfl⟩)
    go_returns
    exact ⟨rfl, rfl⟩
  · have hk : (nCheck n s != 0) = false := by rw [nCheck_yes h]; rfl
    have d1 : decide (p < 0) = false := by simpa using h1
    have d2 : decide (2016 < p) = true := by simpa using h2
    go_enter Try.func63, Try.ntmps63
    go_wp2_with (go_at_call 26; refine (ref_Check31 _ _ _).mono ?_; rintro e w' ⟨rfl, rfl⟩)
    go_returns
    exact ⟨rfl, rfl⟩
theorem rcnt_States (n m : Nat) (hok : nOk n m) (w : World) : Calls Try.prog 65 #[.int .i64 n, .int .i64 m] w fun e w' => e = .returned (.int .i64 (cSt n m)) ∧ w = w' := by
  have hn : n ≤ 64 := by have := hok.2.1; omega
  have hm : m ≤ 32 := by have := hok.2.2.2; omega
  have hk : (nCheck n m != 0) = false := by rw [nCheck_yes hok]; rfl
  have h1 := tri_le hm
  have h2 := st_le hn hm
  have e0 := tri_int m
  have e4 : wrap64 ((m : Int) * (m - 1)) = 2 * tri m := by rw [e0]; exact IntWalk.wrap64_in _ ⟨by omega, by omega⟩
  have e1 : wrap64 (1 + (tri m : Int)) = 1 + tri m := IntWalk.wrap64_in _ ⟨by omega, by omega⟩
  have e2 : wrap64 (((n : Int) + 1) * (1 + tri m)) = (((n + 1) * (1 + tri m) : Nat) : Int) := by
    rw [show ((n : Int) + 1) * (1 + tri m) = (((n + 1) * (1 + tri m) : Nat) : Int) by push_cast; rfl]; generalize (n + 1) * (1 + tri m) = T at *; exact IntWalk.wrap64_in _ ⟨by omega, by omega⟩
  have e3 : 1 + (((n + 1) * (1 + tri m) : Nat) : Int) = cSt n m := by
    unfold cSt; generalize (n + 1) * (1 + tri m) = T at *; omega
  generalize hc : cSt n m = C at *
  generalize ht : (n + 1) * (1 + tri m) = T at *
  clear ht hc
  go_enter Try.func65, Try.ntmps65
  go_wp2_with (go_at_call 26; refine (ref_Check31 _ _ _).mono ?_; rintro e w' ⟨rfl, rfl⟩)
  go_returns
  exact ⟨rfl, rfl⟩
theorem rcnt_States_no (n s : Int) (hok : ¬ nOk n s) (w : World) : Calls Try.prog 65 #[.int .i64 n, .int .i64 s] w fun e w' => e = .returned (.int .i64 0) ∧ w = w' := by
  have hk : (nCheck n s != 0) = true := by rw [nCheck_no hok]; rfl
  go_enter Try.func65, Try.ntmps65
  go_wp2_with (go_at_call 26; refine (ref_Check31 _ _ _).mono ?_; rintro e w' ⟨rfl, rfl⟩)
  go_returns
  exact ⟨rfl, rfl⟩

/-- The reference's sum of moves behind k operations. -/
def mvAt (n m e k : Nat) : Nat := min k e * (1 + n * m) + (k - e) * (2 * n * m)
theorem mvAt_lt {n m e k : Nat} (h : k < e) : mvAt n m e (k + 1) = mvAt n m e k + 1 + n * m := by
  unfold mvAt
  rw [show min (k + 1) e = k + 1 by omega, show min k e = k by omega, show k + 1 - e = 0 by omega, show k - e = 0 by omega, Nat.add_mul]; omega
theorem mvAt_ge {n m e k : Nat} (h : e ≤ k) : mvAt n m e (k + 1) = mvAt n m e k + 2 * n * m := by
  unfold mvAt
  rw [show min (k + 1) e = e by omega, show min k e = e by omega, show k + 1 - e = (k - e) + 1 by omega, Nat.add_mul, Nat.one_mul]; omega
theorem mvAt_le {n m e k : Nat} (hn : n ≤ 64) (hm : m ≤ 32) (he : e ≤ n) (hk : k ≤ n) : mvAt n m e k ≤ 400000 := by
  have h1 : n * m ≤ 64 * 32 := Nat.mul_le_mul hn hm
  have h2 : min k e * (1 + n * m) ≤ 64 * 2049 := Nat.mul_le_mul (by omega) (by omega)
  have h3 : (k - e) * (2 * n * m) ≤ 64 * 4096 := Nat.mul_le_mul (by omega) (by rw [Nat.mul_assoc]; omega)
  unfold mvAt; generalize min k e * (1 + n * m) = A at *; generalize (k - e) * (2 * n * m) = B at *; omega
theorem mvAt_end {n m e : Nat} (he : e ≤ n) : ((mvAt n m e n : Nat) : Int) = cMv n m e := by
  unfold mvAt cMv
  rw [show min n e = e by omega]
  congr 2
  rw [Nat.mul_assoc, Nat.mul_assoc]

end Go.Proofs.Ythfcbjfeepindaa
