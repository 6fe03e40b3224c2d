/- The contracts of package count's sums: what each call answers; nothing that was there changes. -/
import Derived.Test.YthfcbjfeepindaaNumV
namespace Go.Proofs.Ythfcbjfeepindaa
open Go.RowKit
set_option linter.unusedVariables false
set_option linter.unusedSimpArgs false

/-- How many pairs there are of n. -/
def tri (n : Nat) : Nat := n * (n - 1) / 2
theorem tri_two (n : Nat) : 2 * tri n = n * (n - 1) := by
  unfold tri
  have h : n * (n - 1) % 2 = 0 := by
    rcases Nat.mod_two_eq_zero_or_one n with h | h
    · rw [Nat.mul_mod, h]; simp
    · rw [Nat.mul_mod, show (n - 1) % 2 = 0 by omega]; simp
  omega
theorem tri_int (n : Nat) : (n : Int) * (n - 1) = 2 * tri n := by
  have := tri_two n
  rcases Nat.eq_zero_or_pos n with h | h
  · subst h; simp [tri]
  · have e : ((n : Int) - 1) = ((n - 1 : Nat) : Int) := by omega
    rw [e]; exact_mod_cast this.symm
theorem tri_le {n b : Nat} (h : n ≤ b) : 2 * tri n ≤ b * b := by
  rw [tri_two]; exact Nat.mul_le_mul h (by omega)
theorem tri_div (n : Nat) : Int.tdiv ((n : Int) * (n - 1)) 2 = tri n := by
  rw [tri_int, Int.mul_comm, Int.mul_tdiv_cancel _ (by decide)]

theorem cnt_two (n : Nat) (hn : n ≤ 65) (w : World) : Calls Try.prog 97 #[.int .i64 n] w fun e w' => e = .returned (.int .i64 (tri n)) ∧ w = w' := by
  have h1 := tri_le hn
  have e1 := tri_int n
  have e2 : wrap64 ((n : Int) * (n - 1)) = 2 * tri n := by rw [e1]; exact IntWalk.wrap64_in _ ⟨by omega, by omega⟩
  go_enter Try.func97, Try.ntmps97
  go_wp2_with fail
  go_returns
  exact ⟨rfl, rfl⟩
theorem cnt_may (o s : Int) (w : World) : Calls Try.prog 96 #[.agg #[.int .i64 o, .int .i64 s]] w fun e w' => e = .returned (.bool (decide (nOk o s))) ∧ Below w.heap.size w w' := by
  go_enter Try.func96, Try.ntmps96
  go_wp2_with (go_at_call 25; refine (num_Check _ _ _).mono ?_; rintro e w' ⟨rfl, hb⟩)
  go_returns
  refine ⟨?_, by (repeat (first | (with_reducible exact Below.refl _ _) | (with_reducible assumption) | (with_reducible refine below_alloc ?_ _) | (with_reducible refine below_drew ?_) | (with_reducible refine below_drewN ?_ _) | (with_reducible refine below_step ?_ (by with_reducible assumption))))⟩
  by_cases h : nOk o s
  · rw [decide_eq_true h]; simp [nCheck_yes h]
  · rw [decide_eq_false h]; simp [nCheck_no h]
def cP (n : Nat) : Int := ((n + 2 * (n * tri n) : Nat) : Int)
theorem n_tri {n : Nat} (hn : n ≤ 64) : n * tri n ≤ 64 * 2048 := Nat.mul_le_mul hn (by have := tri_le hn; omega)
theorem cnt_Places (n : Nat) (s : Int) (hok : nOk n s) (w : World) : Calls Try.prog 60 #[.agg #[.int .i64 n, .int .i64 s]] w fun e w' => e = .returned (.int .i64 (cP n)) ∧ Below w.heap.size w w' := by
  have hn : n ≤ 64 := by have := hok.2.1; omega
  have h1 := tri_le hn
  have h2 := n_tri hn
  have hd : decide (nOk n s) = true := decide_eq_true hok
  have e0 : IntKind.i64.wrap (2 * (n : Int)) = 2 * n := IntWalk.i64_in _ (by omega)
  have e1' : (2 * (n : Int)) * (tri n) = 2 * ((n * tri n : Nat) : Int) := by rw [Int.mul_assoc]; push_cast; rfl
  have e1 : IntKind.i64.wrap ((2 * (n : Int)) * (tri n)) = 2 * ((n * tri n : Nat) : Int) := by rw [e1']; exact IntWalk.i64_in _ (by omega)
  have e2 : IntKind.i64.wrap ((n : Int) + 2 * ((n * tri n : Nat) : Int)) = cP n := by rw [IntWalk.i64_in _ (by omega)]; unfold cP; push_cast; rfl
  generalize hc : cP n = C at *
  generalize ht : n * tri n = T at *
  clear e1' ht hc
  have hb1 : Below w.heap.size w (w.alloc (.cells #[.int .i64 n, .int .i64 s] 23)) := (by (repeat (first | (with_reducible exact Below.refl _ _) | (with_reducible assumption) | (with_reducible refine below_alloc ?_ _) | (with_reducible refine below_drew ?_) | (with_reducible refine below_drewN ?_ _) | (with_reducible refine below_step ?_ (by with_reducible assumption))))); have hs1 := Blk.made w #[.int .i64 n, .int .i64 s] 23; generalize hw1 : w.alloc (.cells #[.int .i64 n, .int .i64 s] 23) = W1 at hb1 hs1; have HW1 := Lib.hid hw1; clear hw1; have c0 := hs1.cell 0; have c1 := hs1.cell 1; simp at c0 c1
  go_enter Try.func60, Try.ntmps60
  go_wp2_with fail
  rw [HW1.out]
  go_wp2_with (go_at_call 96; refine (cnt_may _ _ _).mono ?_; rintro e w' ⟨rfl, hb⟩; have c0 := cell_later hb c0; have c1 := cell_later hb c1)
  go_quiet ((go_at_call 97; exact Calls.quiet_of_same ((cnt_two n (by omega) _).mono fun e w' h => ⟨h.1, h.2.symm⟩)))
  go_wp2
  go_returns
  exact ⟨rfl, by (repeat (first | (with_reducible exact Below.refl _ _) | (with_reducible assumption) | (with_reducible refine below_alloc ?_ _) | (with_reducible refine below_drew ?_) | (with_reducible refine below_drewN ?_ _) | (with_reducible refine below_step ?_ (by with_reducible assumption))))⟩
theorem cnt_Places_no (n s : Int) (hok : ¬ nOk n s) (w : World) : Calls Try.prog 60 #[.agg #[.int .i64 n, .int .i64 s]] w fun e w' => e = .returned (.int .i64 0) ∧ Below w.heap.size w w' := by
  have hd : decide (nOk n s) = false := decide_eq_false hok
  have hb1 : Below w.heap.size w (w.alloc (.cells #[.int .i64 n, .int .i64 s] 23)) := (by (repeat (first | (with_reducible exact Below.refl _ _) | (with_reducible assumption) | (with_reducible refine below_alloc ?_ _) | (with_reducible refine below_drew ?_) | (with_reducible refine below_drewN ?_ _) | (with_reducible refine below_step ?_ (by with_reducible assumption))))); have hs1 := Blk.made w #[.int .i64 n, .int .i64 s] 23; generalize hw1 : w.alloc (.cells #[.int .i64 n, .int .i64 s] 23) = W1 at hb1 hs1; have HW1 := Lib.hid hw1; clear hw1; have c0 := hs1.cell 0; have c1 := hs1.cell 1; simp at c0 c1
  go_enter Try.func60, Try.ntmps60
  go_wp2_with fail
  rw [HW1.out]
  go_wp2_with (go_at_call 96; refine (cnt_may _ _ _).mono ?_; rintro e w' ⟨rfl, hb⟩; have c0 := cell_later hb c0; have c1 := cell_later hb c1)
  go_returns
  exact ⟨rfl, by (repeat (first | (with_reducible exact Below.refl _ _) | (with_reducible assumption) | (with_reducible refine below_alloc ?_ _) | (with_reducible refine below_drew ?_) | (with_reducible refine below_drewN ?_ _) | (with_reducible refine below_step ?_ (by with_reducible assumption))))⟩

def tmOk (n s p : Int) : Prop := nOk n s ∧ 0 ≤ p ∧ p ≤ 2016
theorem tri_mul {n p : Nat} (hn : n ≤ 64) (hp : p ≤ 2016) : tri n * p ≤ 2048 * 2016 := Nat.mul_le_mul (by have := tri_le hn; omega) hp
theorem cnt_Times (n : Nat) (s : Int) (p : Nat) (hok : tmOk n s p) (w : World) : Calls Try.prog 62 #[.agg #[.int .i64 n, .int .i64 s], .int .i64 p] w fun e w' => e = .returned (.int .i64 ((tri n * p : Nat) : Int)) ∧ Below w.heap.size w w' := by
  have hn : n ≤ 64 := by have := hok.1.2.1; omega
  have hp : p ≤ 2016 := by have := hok.2.2; omega
  have h2 := tri_mul hn hp
  have hd : decide (nOk n s) = true := decide_eq_true hok.1
  have d1 : decide ((p : Int) < 0) = false := decide_eq_false (by omega)
  have d2 : decide (2016 < (p : Int)) = false := decide_eq_false (by omega)
  have e1 : wrap64 ((tri n : Int) * p) = ((tri n * p : Nat) : Int) := by rw [← Int.natCast_mul]; exact IntWalk.wrap64_in _ ⟨by omega, by omega⟩
  generalize tri n * p = T at *
  have hb1 : Below w.heap.size w (w.alloc (.cells #[.int .i64 n, .int .i64 s] 23)) := (by (repeat (first | (with_reducible exact Below.refl _ _) | (with_reducible assumption) | (with_reducible refine below_alloc ?_ _) | (with_reducible refine below_drew ?_) | (with_reducible refine below_drewN ?_ _) | (with_reducible refine below_step ?_ (by with_reducible assumption))))); have hs1 := Blk.made w #[.int .i64 n, .int .i64 s] 23; generalize hw1 : w.alloc (.cells #[.int .i64 n, .int .i64 s] 23) = W1 at hb1 hs1; have HW1 := Lib.hid hw1; clear hw1; have c0 := hs1.cell 0; have c1 := hs1.cell 1; simp at c0 c1
  go_enter Try.func62, Try.ntmps62
  go_wp2_with fail
  rw [HW1.out]
  go_wp2_with (first | (go_at_call 96; refine (cnt_may _ _ _).mono ?_; rintro e w' ⟨rfl, hb⟩; have c0 := cell_later hb c0; have c1 := cell_later hb c1) | (go_at_call 97; refine (cnt_two n (by omega) _).mono ?_; rintro e w' ⟨rfl, rfl⟩))
  go_returns
  exact ⟨ret_int e1, by (repeat (first | (with_reducible exact Below.refl _ _) | (with_reducible assumption) | (with_reducible refine below_alloc ?_ _) | (with_reducible refine below_drew ?_) | (with_reducible refine below_drewN ?_ _) | (with_reducible refine below_step ?_ (by with_reducible assumption))))⟩
theorem cnt_Times_no (n s p : Int) (hok : ¬ tmOk n s p) (w : World) : Calls Try.prog 62 #[.agg #[.int .i64 n, .int .i64 s], .int .i64 p] w fun e w' => e = .returned (.int .i64 0) ∧ Below w.heap.size w w' := by
  have hcase : ¬ nOk n s ∨ (nOk n s ∧ p < 0) ∨ (nOk n s ∧ 0 ≤ p ∧ 2016 < p) := by
    unfold tmOk at hok
    by_cases h : nOk n s
    · exact Or.inr (by by_cases hp : p < 0; exact Or.inl ⟨h, hp⟩; exact Or.inr ⟨h, by omega, Int.not_le.1 fun h2 => hok ⟨h, by omega, h2⟩⟩)
    · exact Or.inl h
  clear hok
  have hb1 : Below w.heap.size w (w.alloc (.cells #[.int .i64 n, .int .i64 s] 23)) := (by (repeat (first | (with_reducible exact Below.refl _ _) | (with_reducible assumption) | (with_reducible refine below_alloc ?_ _) | (with_reducible refine below_drew ?_) | (with_reducible refine below_drewN ?_ _) | (with_reducible refine below_step ?_ (by with_reducible assumption))))); have hs1 := Blk.made w #[.int .i64 n, .int .i64 s] 23; generalize hw1 : w.alloc (.cells #[.int .i64 n, .int .i64 s] 23) = W1 at hb1 hs1; have HW1 := Lib.hid hw1; clear hw1; have c0 := hs1.cell 0; have c1 := hs1.cell 1; simp at c0 c1
  rcases hcase with h | ⟨h, h1⟩ | ⟨h, h1, h2⟩
  · have hd : decide (nOk n s) = false := decide_eq_false h
    go_enter Try.func62, Try.ntmps62
    go_wp2_with fail
    rw [HW1.out]
    go_wp2_with (go_at_call 96; refine (cnt_may _ _ _).mono ?_; rintro e w' ⟨rfl, hb⟩; have c0 := cell_later hb c0; have c1 := cell_later hb c1)
    go_returns
    exact ⟨rfl, by (repeat (first | (with_reducible exact Below.refl _ _) | (with_reducible assumption) | (with_reducible refine below_alloc ?_ _) | (with_reducible refine below_drew ?_) | (with_reducible refine below_drewN ?_ _) | (with_reducible refine below_step ?_ (by with_reducible assumption))))⟩
  · have hd : decide (nOk n s) = true := decide_eq_true h
    have d1 : decide (p < 0) = true := by simpa using h1
    go_enter Try.func62, Try.ntmps62
    go_wp2_with fail
    rw [HW1.out]
    go_wp2_with (go_at_call 96; refine (cnt_may _ _ _).mono ?_; rintro e w' ⟨rfl, hb⟩; have c0 := cell_later hb c0; have c1 := cell_later hb c1)
    go_returns
    exact ⟨rfl, by (repeat (first | (with_reducible exact Below.refl _ _) | (with_reducible assumption) | (with_reducible refine below_alloc ?_ _) | (with_reducible refine below_drew ?_) | (with_reducible refine below_drewN ?_ _) | (with_reducible refine below_step ?_ (by with_reducible assumption))))⟩
  · have hd : decide (nOk n s) = true := decide_eq_true h
    have d1 : decide (p < 0) = false := by simpa using h1
    have d2 : decide (2016 < p) = true := by simpa using h2
    go_enter Try.func62, Try.ntmps62
    go_wp2_with fail
    rw [HW1.out]
    go_wp2_with (go_at_call 96; refine (cnt_may _ _ _).mono ?_; rintro e w' ⟨rfl, hb⟩; have c0 := cell_later hb c0; have c1 := cell_later hb c1)
    go_returns
    exact ⟨rfl, by (repeat (first | (with_reducible exact Below.refl _ _) | (with_reducible assumption) | (with_reducible refine below_alloc ?_ _) | (with_reducible refine below_drew ?_) | (with_reducible refine below_drewN ?_ _) | (with_reducible refine below_step ?_ (by with_reducible assumption))))⟩

def cSt (n m : Nat) : Int := ((1 + (n + 1) * (1 + tri m) : Nat) : Int)
theorem st_le {n m : Nat} (hn : n ≤ 64) (hm : m ≤ 32) : (n + 1) * (1 + tri m) ≤ 65 * 513 := Nat.mul_le_mul (by omega) (by have := tri_le hm; omega)
theorem cnt_States (n m : Nat) (hok : nOk n m) (w : World) : Calls Try.prog 64 #[.agg #[.int .i64 n, .int .i64 m]] w fun e w' => e = .returned (.int .i64 (cSt n m)) ∧ Below w.heap.size w w' := by
  have hn : n ≤ 64 := by have := hok.2.1; omega
  have hm : m ≤ 32 := by have := hok.2.2.2; omega
  have h1 := tri_le hm
  have h2 := st_le hn hm
  have hd : decide (nOk n m) = true := decide_eq_true hok
  have e0 : IntKind.i64.wrap ((n : Int) + 1) = n + 1 := IntWalk.i64_in _ (by omega)
  have e1 : IntKind.i64.wrap (1 + (tri m : Int)) = 1 + tri m := IntWalk.i64_in _ (by omega)
  have e2' : ((n : Int) + 1) * (1 + tri m) = (((n + 1) * (1 + tri m) : Nat) : Int) := by push_cast; rfl
  have e2 : IntKind.i64.wrap (((n : Int) + 1) * (1 + tri m)) = (((n + 1) * (1 + tri m) : Nat) : Int) := by rw [e2']; exact IntWalk.i64_in _ (by omega)
  have e3 : IntKind.i64.wrap (1 + (((n + 1) * (1 + tri m) : Nat) : Int)) = cSt n m := by rw [IntWalk.i64_in _ (by omega)]; unfold cSt; omega
  generalize hc : cSt n m = C at *
  generalize ht : (n + 1) * (1 + tri m) = T at *
  clear e2' ht hc
  have hb1 : Below w.heap.size w (w.alloc (.cells #[.int .i64 n, .int .i64 m] 23)) := (by (repeat (first | (with_reducible exact Below.refl _ _) | (with_reducible assumption) | (with_reducible refine below_alloc ?_ _) | (with_reducible refine below_drew ?_) | (with_reducible refine below_drewN ?_ _) | (with_reducible refine below_step ?_ (by with_reducible assumption))))); have hs1 := Blk.made w #[.int .i64 n, .int .i64 m] 23; generalize hw1 : w.alloc (.cells #[.int .i64 n, .int .i64 m] 23) = W1 at hb1 hs1; have HW1 := Lib.hid hw1; clear hw1; have c0 := hs1.cell 0; have c1 := hs1.cell 1; simp at c0 c1
  go_enter Try.func64, Try.ntmps64
  go_wp2_with fail
  rw [HW1.out]
  go_wp2_with (go_at_call 96; refine (cnt_may _ _ _).mono ?_; rintro e w' ⟨rfl, hb⟩; have c0 := cell_later hb c0; have c1 := cell_later hb c1)
  go_quiet ((go_at_call 97; exact Calls.quiet_of_same ((cnt_two m (by omega) _).mono fun e w' h => ⟨h.1, h.2.symm⟩)))
  go_wp2
  go_returns
  exact ⟨rfl, by (repeat (first | (with_reducible exact Below.refl _ _) | (with_reducible assumption) | (with_reducible refine below_alloc ?_ _) | (with_reducible refine below_drew ?_) | (with_reducible refine below_drewN ?_ _) | (with_reducible refine below_step ?_ (by with_reducible assumption))))⟩
theorem cnt_States_no (n s : Int) (hok : ¬ nOk n s) (w : World) : Calls Try.prog 64 #[.agg #[.int .i64 n, .int .i64 s]] w fun e w' => e = .returned (.int .i64 0) ∧ Below w.heap.size w w' := by
  have hd : decide (nOk n s) = false := decide_eq_false hok
  have hb1 : Below w.heap.size w (w.alloc (.cells #[.int .i64 n, .int .i64 s] 23)) := (by (repeat (first | (with_reducible exact Below.refl _ _) | (with_reducible assumption) | (with_reducible refine below_alloc ?_ _) | (with_reducible refine below_drew ?_) | (with_reducible refine below_drewN ?_ _) | (with_reducible refine below_step ?_ (by with_reducible assumption))))); have hs1 := Blk.made w #[.int .i64 n, .int .i64 s] 23; generalize hw1 : w.alloc (.cells #[.int .i64 n, .int .i64 s] 23) = W1 at hb1 hs1; have HW1 := Lib.hid hw1; clear hw1; have c0 := hs1.cell 0; have c1 := hs1.cell 1; simp at c0 c1
  go_enter Try.func64, Try.ntmps64
  go_wp2_with fail
  rw [HW1.out]
  go_wp2_with (go_at_call 96; refine (cnt_may _ _ _).mono ?_; rintro e w' ⟨rfl, hb⟩; have c0 := cell_later hb c0; have c1 := cell_later hb c1)
  go_returns
  exact ⟨rfl, by (repeat (first | (with_reducible exact Below.refl _ _) | (with_reducible assumption) | (with_reducible refine below_alloc ?_ _) | (with_reducible refine below_drew ?_) | (with_reducible refine below_drewN ?_ _) | (with_reducible refine below_step ?_ (by with_reducible assumption))))⟩

theorem waddN {a b : Nat} (h : a + b ≤ 1000000) : wrap64 ((a : Int) + b) = ((a + b : Nat) : Int) := by rw [IntWalk.wrap64_in _ ⟨by omega, by omega⟩]; omega
theorem wmulN {a b : Nat} (h : a * b ≤ 1000000) : wrap64 ((a : Int) * b) = ((a * b : Nat) : Int) := by
  rw [← Int.natCast_mul]; generalize a * b = c at h; exact IntWalk.wrap64_in _ ⟨by omega, by omega⟩
theorem wsubN {a b : Nat} (hb : b ≤ a) (h : a ≤ 1000000) : wrap64 ((a : Int) - b) = ((a - b : Nat) : Int) := by rw [IntWalk.wrap64_in _ ⟨by omega, by omega⟩]; omega
def mvOk (n s e : Int) : Prop := nOk n s ∧ 0 ≤ e ∧ e ≤ n
def cMv (n m e : Nat) : Int := ((e * (1 + n * m) + ((n - e) * 2) * (n * m) : Nat) : Int)
theorem mv_le {n m e : Nat} (hn : n ≤ 64) (hm : m ≤ 32) (he : e ≤ n) : n * m ≤ 2048 ∧ e * (1 + n * m) ≤ 131136 ∧ ((n - e) * 2) * (n * m) ≤ 262144 := by
  have h : n * m ≤ 64 * 32 := Nat.mul_le_mul hn hm
  exact ⟨h, Nat.le_trans (Nat.mul_le_mul (show e ≤ 64 by omega) (show 1 + n * m ≤ 2049 by omega)) (by decide), Nat.le_trans (Nat.mul_le_mul (show (n - e) * 2 ≤ 128 by omega) (show n * m ≤ 2048 by omega)) (by decide)⟩
theorem cnt_Moves (n m e : Nat) (hok : mvOk n m e) (w : World) : Calls Try.prog 66 #[.agg #[.int .i64 n, .int .i64 m], .int .i64 e] w fun x w' => x = .returned (.int .i64 (cMv n m e)) ∧ Below w.heap.size w w' := by
  have hn : n ≤ 64 := by have := hok.1.2.1; omega
  have hm : m ≤ 32 := by have := hok.1.2.2.2; omega
  have he : e ≤ n := by have := hok.2.2; omega
  obtain ⟨h1, h2, h3⟩ := mv_le hn hm he
  have hd : decide (nOk n m) = true := decide_eq_true hok.1
  have d1 : decide ((e : Int) < 0) = false := decide_eq_false (by omega)
  have d2 : decide ((n : Int) < (e : Int)) = false := decide_eq_false (by omega)
  have e1 : wrap64 ((n : Int) * m) = ((n * m : Nat) : Int) := wmulN (by omega)
  have e2 : wrap64 (1 + ((n * m : Nat) : Int)) = ((1 + n * m : Nat) : Int) := waddN (a := 1) (by omega)
  have e3 : wrap64 ((e : Int) * ((1 + n * m : Nat) : Int)) = ((e * (1 + n * m) : Nat) : Int) := wmulN (by omega)
  have e5 : ((n : Int) - e) * 2 = (((n - e) * 2 : Nat) : Int) := by omega
  have e6 : wrap64 (((n : Int) - e) * 2 * ((n * m : Nat) : Int)) = ((((n - e) * 2) * (n * m) : Nat) : Int) := by rw [e5]; exact wmulN (Nat.le_trans h3 (by decide))
  have e7 : wrap64 (((e * (1 + n * m) : Nat) : Int) + ((((n - e) * 2) * (n * m) : Nat) : Int)) = cMv n m e := by
    unfold cMv; exact waddN (Nat.le_trans (Nat.add_le_add h2 h3) (by decide))
  clear e5
  clear h1 h2 h3 hok
  generalize hC : cMv n m e = C at *
  generalize hA : e * (1 + n * m) = A at *
  generalize hB : ((n - e) * 2) * (n * m) = B at *
  generalize hD : n * m = D at *
  generalize hG : 1 + D = G at *
  clear hC hA hB hD hG
  have hb1 : Below w.heap.size w (w.alloc (.cells #[.int .i64 n, .int .i64 m] 23)) := (by (repeat (first | (with_reducible exact Below.refl _ _) | (with_reducible assumption) | (with_reducible refine below_alloc ?_ _) | (with_reducible refine below_drew ?_) | (with_reducible refine below_drewN ?_ _) | (with_reducible refine below_step ?_ (by with_reducible assumption))))); have hs1 := Blk.made w #[.int .i64 n, .int .i64 m] 23; generalize hw1 : w.alloc (.cells #[.int .i64 n, .int .i64 m] 23) = W1 at hb1 hs1; have HW1 := Lib.hid hw1; clear hw1; have c0 := hs1.cell 0; have c1 := hs1.cell 1; simp at c0 c1
  go_enter Try.func66, Try.ntmps66
  go_wp2_with fail
  rw [HW1.out]
  go_wp2_with (go_at_call 96; refine (cnt_may _ _ _).mono ?_; rintro e w' ⟨rfl, hb⟩; have c0 := cell_later hb c0; have c1 := cell_later hb c1)
  go_returns
  exact ⟨ret_int e7, by (repeat (first | (with_reducible exact Below.refl _ _) | (with_reducible assumption) | (with_reducible refine below_alloc ?_ _) | (with_reducible refine below_drew ?_) | (with_reducible refine below_drewN ?_ _) | (with_reducible refine below_step ?_ (by with_reducible assumption))))⟩
end Go.Proofs.Ythfcbjfeepindaa
