/- The contract of the reference's sum of moves. -/
import Derived.Test.YthfcbjfeepindaaCntR
namespace Go.Proofs.Ythfcbjfeepindaa
open Go.RowKit
set_option linter.unusedVariables false
set_option linter.unusedSimpArgs false

theorem wlt {U V D : Nat} (h : V = U + 1 + D) (hV : V ≤ 400000) : wrap64 ((U : Int) + 1 + D) = (V : Int) := by rw [IntWalk.wrap64_in _ ⟨by omega, by omega⟩]; omega
theorem wge {U V D : Nat} (h : V = U + D) (hV : V ≤ 400000) : wrap64 ((U : Int) + D) = (V : Int) := by rw [IntWalk.wrap64_in _ ⟨by omega, by omega⟩]; omega
set_option maxHeartbeats 1000000 in
theorem rcnt_Moves (n m e : Nat) (hok : mvOk n m e) (w : World) : Calls Try.prog 67 #[.int .i64 n, .int .i64 m, .int .i64 e] w fun x w' => x = .returned (.int .i64 (cMv n m e)) ∧ w = w' := by
  have hn : n ≤ 64 := by have := hok.1.2.1; omega
  have hm : m ≤ 32 := by have := hok.1.2.2.2; omega
  have he : e ≤ n := by have := hok.2.2; omega
  have hk : (nCheck n m != 0) = false := by rw [nCheck_yes hok.1]; rfl
  have hnm : n * m ≤ 2048 := Nat.mul_le_mul hn hm
  have hU1 : ∀ k, k < n → k < e → wrap64 ((mvAt n m e k : Nat) + 1 + ((n * m : Nat) : Int)) = ((mvAt n m e (k + 1) : Nat) : Int) := fun k h h' => wlt (mvAt_lt h') (mvAt_le hn hm he h)
  have hU2 : ∀ k, k < n → e ≤ k → wrap64 ((mvAt n m e k : Nat) + ((2 * n * m : Nat) : Int)) = ((mvAt n m e (k + 1) : Nat) : Int) := fun k h h' => wge (mvAt_ge h') (mvAt_le hn hm he h)
  have HU1 := Lib.hid hU1; have HU2 := Lib.hid hU2
  clear hU1 hU2
  have d1 : decide ((e : Int) < 0) = false := decide_eq_false (by omega)
  have d2 : decide ((n : Int) < (e : Int)) = false := decide_eq_false (by omega)
  have e1 : wrap64 ((n : Int) * m) = ((n * m : Nat) : Int) := wmulN (by omega)
  have e2 : wrap64 (2 * (n : Int)) = 2 * n := IntWalk.wrap64_in _ ⟨by omega, by omega⟩
  have e3 : wrap64 (2 * (n : Int) * m) = ((2 * n * m : Nat) : Int) := by
    have := wmulN (a := 2 * n) (b := m) (by rw [Nat.mul_assoc]; omega)
    rw [← this]; push_cast; rfl
  have hAll := fun k (h : k ≤ n) => mvAt_le (k := k) hn hm he h
  have hEnd := mvAt_end (m := m) he
  generalize hC : cMv n m e = C at *
  have HE := Lib.hid hEnd
  have HA := Lib.hid hAll
  clear hC hEnd hAll hok
  go_enter Try.func67, Try.ntmps67
  go_wp2_with (go_at_call 26; refine (ref_Check31 _ _ _).mono ?_; rintro e w' ⟨rfl, rfl⟩)
  go_loopw [7, 8] (fun v i wr => ∃ k : Nat, k ≤ n ∧ i = .int .i64 k ∧ v = .int .i64 (mvAt n m e k : Nat) ∧ w = wr) (fun _ i _ => n - (intOf i).toNat)
  case atStart => exact ⟨0, Nat.zero_le _, rfl, by simp [mvAt], rfl⟩
  case round =>
    obtain ⟨k, hkn, rfl, rfl, rfl⟩ := hrel
    by_cases hlt : k < n
    · have hA := HA.out k hkn
      have hB := HA.out (k + 1) hlt
      by_cases hke : k < e
      · have e5 := HU1.out k hlt hke
        clear hB e3 e2
        generalize hV : mvAt n m e (k + 1) = V at e5
        generalize mvAt n m e k = U at *
        generalize n * m = D at *
        clear hnm
        go_wp2_with fail
        exact ⟨⟨k + 1, by omega, by go_num, by rw [e5, hV], by trivial⟩, by simp [intOf]; omega⟩
      · have e5 := HU2.out k hlt (by omega)
        clear hB e1
        generalize hV : mvAt n m e (k + 1) = V at e5
        generalize mvAt n m e k = U at *
        generalize 2 * n * m = D at *
        clear hnm
        go_wp2_with fail
        exact ⟨⟨k + 1, by omega, by go_num, by rw [e5, hV], by trivial⟩, by simp [intOf]; omega⟩
    · have hkc : k = n := by omega
      subst hkc
      have hE := HE.out
      go_wp2_with fail
      go_ret
      exact ⟨ret_int hE, rfl⟩
theorem rcnt_Moves_no (n s e : Int) (hok : ¬ mvOk n s e) (w : World) : Calls Try.prog 67 #[.int .i64 n, .int .i64 s, .int .i64 e] w fun x w' => x = .returned (.int .i64 0) ∧ w = w' := by
  have hcase : ¬ nOk n s ∨ (nOk n s ∧ e < 0) ∨ (nOk n s ∧ 0 ≤ e ∧ n < e) := by
    unfold mvOk at hok
    by_cases h : nOk n s
    · exact Or.inr (by by_cases hp : e < 0; exact Or.inl ⟨h, hp⟩; exact Or.inr ⟨h, by omega, Int.not_le.1 fun h2 => hok ⟨h, by omega, h2⟩⟩)
    · exact Or.inl h
  clear hok
  rcases hcase with h | ⟨h, h1⟩ | ⟨h, h1, h2⟩
  · have hk : (nCheck n s != 0) = true := by rw [nCheck_no h]; rfl
    go_enter Try.func67, Try.ntmps67
    go_wp2_with (go_at_call 26; refine (ref_Check31 _ _ _).mono ?_; rintro e w' ⟨rfl, rfl⟩)
    go_returns
    exact ⟨rfl, rfl⟩
  · have hk : (nCheck n s != 0) = false := by rw [nCheck_yes h]; rfl
    have d1 : decide (e < 0) = true := by simpa using h1
    go_enter Try.func67, Try.ntmps67
    go_wp2_with (go_at_call 26; refine (ref_Check31 _ _ _).mono ?_; rintro e w' ⟨rfl, rfl⟩)
    go_returns
    exact ⟨rfl, rfl⟩
  · have hk : (nCheck n s != 0) = false := by rw [nCheck_yes h]; rfl
    have d1 : decide (e < 0) = false := by simpa using h1
    have d2 : decide (n < e) = true := by simpa using h2
    go_enter Try.func67, Try.ntmps67
    go_wp2_with (go_at_call 26; refine (ref_Check31 _ _ _).mono ?_; rintro e w' ⟨rfl, rfl⟩)
    go_returns
    exact ⟨rfl, rfl⟩
theorem cnt_Moves_no (n s e : Int) (hok : ¬ mvOk n s e) (w : World) : Calls Try.prog 66 #[.agg #[.int .i64 n, .int .i64 s], .int .i64 e] w fun x w' => x = .returned (.int .i64 0) ∧ Below w.heap.size w w' := by
  have hcase : ¬ nOk n s ∨ (nOk n s ∧ e < 0) ∨ (nOk n s ∧ 0 ≤ e ∧ n < e) := by
    unfold mvOk at hok
    by_cases h : nOk n s
    · exact Or.inr (by by_cases hp : e < 0; exact Or.inl ⟨h, hp⟩; exact Or.inr ⟨h, by omega, Int.not_le.1 fun h2 => hok ⟨h, by omega, h2⟩⟩)
    · exact Or.inl h
  clear hok
  have hb1 : Below w.heap.size w (w.alloc (.cells #[.int .i64 n, .int .i64 s] 23)) := (by (repeat (first | (with_reducible exact Below.refl _ _) | (with_reducible assumption) | (with_reducible refine below_alloc ?_ _) | (with_reducible refine below_drew ?_) | (with_reducible refine below_drewN ?_ _) | (with_reducible refine below_step ?_ (by with_reducible assumption))))); have hs1 := Blk.made w #[.int .i64 n, .int .i64 s] 23; generalize hw1 : w.alloc (.cells #[.int .i64 n, .int .i64 s] 23) = W1 at hb1 hs1; have HW1 := Lib.hid hw1; clear hw1; have c0 := hs1.cell 0; have c1 := hs1.cell 1; simp at c0 c1
  rcases hcase with h | ⟨h, h1⟩ | ⟨h, h1, h2⟩
  · have hd : decide (nOk n s) = false := decide_eq_false h
    go_enter Try.func66, Try.ntmps66
    go_wp2_with fail
    rw [HW1.out]
    go_wp2_with (go_at_call 96; refine (cnt_may _ _ _).mono ?_; rintro e w' ⟨rfl, hb⟩; have c0 := cell_later hb c0; have c1 := cell_later hb c1)
    go_returns
    exact ⟨rfl, by (repeat (first | (with_reducible exact Below.refl _ _) | (with_reducible assumption) | (with_reducible refine below_alloc ?_ _) | (with_reducible refine below_drew ?_) | (with_reducible refine below_drewN ?_ _) | (with_reducible refine below_step ?_ (by with_reducible assumption))))⟩
  · have hd : decide (nOk n s) = true := decide_eq_true h
    have d1 : decide (e < 0) = true := by simpa using h1
    go_enter Try.func66, Try.ntmps66
    go_wp2_with fail
    rw [HW1.out]
    go_wp2_with (go_at_call 96; refine (cnt_may _ _ _).mono ?_; rintro e w' ⟨rfl, hb⟩; have c0 := cell_later hb c0; have c1 := cell_later hb c1)
    go_returns
    exact ⟨rfl, by (repeat (first | (with_reducible exact Below.refl _ _) | (with_reducible assumption) | (with_reducible refine below_alloc ?_ _) | (with_reducible refine below_drew ?_) | (with_reducible refine below_drewN ?_ _) | (with_reducible refine below_step ?_ (by with_reducible assumption))))⟩
  · have hd : decide (nOk n s) = true := decide_eq_true h
    have d1 : decide (e < 0) = false := by simpa using h1
    have d2 : decide (n < e) = true := by simpa using h2
    go_enter Try.func66, Try.ntmps66
    go_wp2_with fail
    rw [HW1.out]
    go_wp2_with (go_at_call 96; refine (cnt_may _ _ _).mono ?_; rintro e w' ⟨rfl, hb⟩; have c0 := cell_later hb c0; have c1 := cell_later hb c1)
    go_returns
    exact ⟨rfl, by (repeat (first | (with_reducible exact Below.refl _ _) | (with_reducible assumption) | (with_reducible refine below_alloc ?_ _) | (with_reducible refine below_drew ?_) | (with_reducible refine below_drewN ?_ _) | (with_reducible refine below_step ?_ (by with_reducible assumption))))⟩
end Go.Proofs.Ythfcbjfeepindaa
