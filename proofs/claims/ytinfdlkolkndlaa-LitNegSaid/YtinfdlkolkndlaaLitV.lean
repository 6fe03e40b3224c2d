/- The contracts of lit.Of and of its reference. -/
import Derived.Test.YtinfdlkolkndlaaLitW
namespace Go.Proofs.Ytinfdlkolkndlaa
open Go.RowKit
set_option linter.unusedVariables false

theorem lit_Of1 (a : Option Addr) (len cap : Nat) (xs : List Int) (v : Int) (p : Addr) (w : World) (hr : IntRow w a len xs) (hp : w.cell? p = some (.slice a len cap)) : Calls Try.prog 25 #[.int .i64 v, .pointer (some p)] w fun e w' => e = .returned (.bool (lhas xs v)) ∧ w' = w := by
  go_enter Try.func25, Try.ntmps25
  go_wp2_with (go_at_call 26; refine (sl_Contains _ _ _ _ _ _ hr).mono ?_; rintro e w' ⟨rfl, rfl⟩)
  all_goals (go_returns; exact ⟨rfl, rfl⟩)

theorem lof_out (xs : List Int) {v : Int} (h : v < 1 ∨ 100000 < v) : lof xs v = 0 := by unfold lof; rw [if_pos h]
theorem lof_in (xs : List Int) {v : Int} (h1 : 1 ≤ v) (h2 : v ≤ 100000) : lof xs v = if lhas xs v = true ∧ lhas xs (-v) = true then 2 else if lhas xs v = true then 1 else if lhas xs (-v) = true then -1 else 0 := by unfold lof; rw [if_neg (by omega)]

set_option maxHeartbeats 1000000 in
theorem lit_Of (a : Option Addr) (len cap : Nat) (xs : List Int) (v : Int) (w : World) (hr : IntRow w a len xs) : Calls Try.prog 20 #[.slice a len cap, .int .i64 v] w fun e w' => e = .returned (.int .i64 (lof xs v)) ∧ Below w.heap.size w w' := by
  have HR := Lib.hid hr; clear hr
  by_cases h : v < 1 ∨ 100000 < v
  · rw [lof_out xs h]
    go_enter Try.func20, Try.ntmps20
    go_wp2_with fail
    all_goals first | (exfalso; omega) | (go_returns; exact ⟨rfl, by go_grown⟩)
  · have h1 : 1 ≤ v := by omega
    have h2 : v ≤ 100000 := by omega
    rw [lof_in xs h1 h2]; clear h
    have hb : Below w.heap.size w (w.alloc (.cells #[.slice a len cap] 33)) := (Below.refl _ _).alloc (Nat.le_refl _) _
    have HR' := Lib.hid (HR.out.later hb)
    cases e1 : lhas xs v
    all_goals
      have E1 := Lib.hid e1; clear e1
      cases e2 : lhas xs (-v)
      all_goals
        have E2 := Lib.hid e2; clear e2
        go_enter Try.func20, Try.ntmps20
        go_wp2_with fail
        refine (lit_Of1 a len cap xs _ _ _ HR'.out (by simp)).mono ?_
        rintro e w' ⟨rfl, rfl⟩
        rw [E1.out]
        go_wp2_with fail
        refine (lit_Of1 a len cap xs _ _ _ HR'.out (by simp)).mono ?_
        rintro e w' ⟨rfl, rfl⟩
        rw [E2.out]
        go_wp2
        all_goals (go_returns; exact ⟨ret_int (by simp), by go_grown⟩)

theorem lside_iff (l : Int) : lside l = true ↔ (lvar l ≠ 0 ∧ 0 < l) := by unfold lside; simp
theorem lof_yes (l v : Int) (h1 : 1 ≤ v) (h2 : v ≤ 100000) : (lvar l == v && lside l) = (v == l) := by
  rw [Bool.eq_iff_iff]; simp [lside_iff]; unfold lvar; split <;> (try split) <;> omega
theorem lof_no (l v : Int) (h1 : 1 ≤ v) (h2 : v ≤ 100000) : (lvar l == v && !lside l) = (-v == l) := by
  rw [Bool.eq_iff_iff]; simp [lside]; unfold lvar; split <;> (try split) <;> omega

/-- What the reference has gathered behind some numbers. -/
def lyes (xs : List Int) (v : Int) : Bool := xs.any fun l => lvar l == v && lside l
def lno (xs : List Int) (v : Int) : Bool := xs.any fun l => lvar l == v && !lside l
theorem lyes_eq (xs : List Int) {v : Int} (h1 : 1 ≤ v) (h2 : v ≤ 100000) : lyes xs v = lhas xs v := by
  unfold lyes lhas; rw [Bool.eq_iff_iff]; simp only [List.any_eq_true, lof_yes _ _ h1 h2, List.contains_iff_mem]; simp
theorem lno_eq (xs : List Int) {v : Int} (h1 : 1 ≤ v) (h2 : v ≤ 100000) : lno xs v = lhas xs (-v) := by
  unfold lno lhas; rw [Bool.eq_iff_iff]; simp only [List.any_eq_true, lof_no _ _ h1 h2, List.contains_iff_mem]; simp
theorem lyes_snoc (xs : List Int) (l v : Int) : lyes (xs ++ [l]) v = (lyes xs v || (lvar l == v && lside l)) := by simp [lyes]
theorem lno_snoc (xs : List Int) (l v : Int) : lno (xs ++ [l]) v = (lno xs v || (lvar l == v && !lside l)) := by simp [lno]

set_option maxHeartbeats 1000000 in
theorem ref_Of (a : Option Addr) (len cap : Nat) (xs : List Int) (v : Int) (w : World) (hr : IntRow w a len xs) : Calls Try.prog 21 #[.slice a len cap, .int .i64 v] w fun e w' => e = .returned (.int .i64 (lof xs v)) ∧ w' = w := by
  obtain ⟨hl, hm, hc⟩ := hr
  unfold maxLen at hm
  have HC := Lib.hid hc; clear hc
  have HL := Lib.hid hl; clear hl
  go_enter Try.func21, Try.ntmps21
  go_wp2
  go_loop [5, 6, 7] (fun y n i => ∃ k : Nat, k ≤ len ∧ i = .int .i64 k ∧ y = .bool (lyes (xs.take k) v) ∧ n = .bool (lno (xs.take k) v)) (fun _ _ i => len - (intOf i).toNat)
  case atStart => exact ⟨0, Nat.zero_le _, rfl, rfl, rfl⟩
  case round =>
    obtain ⟨k, hk, rfl, rfl, rfl⟩ := hrel
    by_cases hlt : k < len
    · obtain ⟨b, off, rfl, hcell⟩ := HC.out (by omega)
      have hc := hcell k hlt
      have HY := Lib.hid (lyes_snoc (xs.take k) (xs.getD k 0) v)
      have HN := Lib.hid (lno_snoc (xs.take k) (xs.getD k 0) v)
      have HT := Lib.hid (take_snoc xs k (by rw [HL.out]; exact hlt))
      clear hcell
      go_wp2_with (go_at_call 7; refine (ref_Split _ _).mono ?_; rintro e w' ⟨rfl, rfl⟩)
      all_goals
        go_round
        case rel => exact ⟨k + 1, by omega, by go_num, by rw [HT.out, HY.out]; simp_all, by rw [HT.out, HN.out]; simp_all⟩
        case measure => simp [intOf]; omega
    · have HE := Lib.hid (List.take_of_length_le (by rw [HL.out]; omega) : xs.take k = xs)
      by_cases h : v < 1 ∨ 100000 < v
      · have HO := Lib.hid (lof_out xs h)
        go_wp2
        all_goals first | (exfalso; omega) | (go_returns; exact ⟨ret_int (by rw [HO.out]), rfl⟩)
      · have h1 : 1 ≤ v := by omega
        have h2 : v ≤ 100000 := by omega
        have HO := Lib.hid (lof_in xs h1 h2)
        have HY := Lib.hid (lyes_eq xs h1 h2)
        have HN := Lib.hid (lno_eq xs h1 h2)
        clear h
        go_wp2
        all_goals first | (exfalso; omega) | (go_returns; refine ⟨ret_int ?_, rfl⟩; rw [HO.out, ← HY.out, ← HN.out]; rw [HE.out] at *; simp_all)
end Go.Proofs.Ytinfdlkolkndlaa
