/- The contracts of package lit and of its reference: what each call answers; nothing that was there changes. -/
import Derived.Test.YtinfdlkolkndlaaRows
import Derived.WalkKit
import Derived.WalkSpells
import Derived.WalkLawsBesides
import Derived.BigGuardPart
import Derived.Handy
import Derived.Lib.Hide
import Derived.Test.YtinfdlkolkndlaaLitP
import Derived.Test.YtinfdlkolkndlaaMem
namespace Go.Proofs.Ytinfdlkolkndlaa
open Go.RowKit
set_option linter.unusedVariables false

theorem lit_variable (l : Int) (w : World) : Calls Try.prog 24 #[.int .i64 l] w fun e w' => e = .returned (.int .i64 (lvar l)) ∧ w' = w := by
  go_enter Try.func24, Try.ntmps24
  go_wp2
  all_goals (go_returns; refine ⟨ret_int ?_, rfl⟩; unfold lvar; split <;> (try split) <;> omega)

theorem lit_Var (l : Int) (w : World) : Calls Try.prog 12 #[.int .i64 l] w fun e w' => e = .returned (.int .i64 (lvar l)) ∧ w' = w := by
  go_enter Try.func12, Try.ntmps12
  go_wp2_with (go_at_call 24; refine (lit_variable _ _).mono ?_; rintro e w' ⟨rfl, rfl⟩)
  go_ret
  exact ⟨rfl, rfl⟩

theorem lit_Check (l vars : Int) (w : World) : Calls Try.prog 10 #[.int .i64 l, .int .i64 vars] w fun e w' => e = .returned (.int .i64 (lcheck l vars)) ∧ w' = w := by
  have hb := lvar_bd l
  go_enter Try.func10, Try.ntmps10
  go_wp2_with (go_at_call 12; refine (lit_Var _ _).mono ?_; rintro e w' ⟨rfl, rfl⟩)
  all_goals (go_returns; refine ⟨ret_int ?_, rfl⟩; unfold lcheck; split <;> (try split) <;> (try omega) <;> (simp_all; try omega))

theorem lit_Neg (l : Int) (w : World) : Calls Try.prog 13 #[.int .i64 l] w fun e w' => e = .returned (.int .i64 (lneg l)) ∧ w' = w := by
  by_cases h : lvar l = 0
  · have h' : (lvar l == 0) = true := by simpa using h
    have e : lneg l = 0 := by unfold lneg; rw [if_pos h]
    rw [e]; clear e h
    go_enter Try.func13, Try.ntmps13
    go_wp2_with (go_at_call 12; refine (lit_Var _ _).mono ?_; rintro e w' ⟨rfl, rfl⟩)
    go_ret
    exact ⟨rfl, rfl⟩
  · have h' : (lvar l == 0) = false := by simpa using h
    have hr := lvar_range h
    have e : lneg l = -l := by unfold lneg; rw [if_neg h]
    rw [e]; clear e h
    go_enter Try.func13, Try.ntmps13
    go_wp2_with (go_at_call 12; refine (lit_Var _ _).mono ?_; rintro e w' ⟨rfl, rfl⟩)
    go_ret
    exact ⟨rfl, rfl⟩

theorem lit_Make (v : Int) (t : Bool) (w : World) : Calls Try.prog 8 #[.int .i64 v, .bool t] w fun e w' => e = .returned (.tuple #[.int .i64 (lmake v t), .int .i64 (lmakeE v t)]) ∧ w' = w := by
  cases t
  all_goals
    go_enter Try.func8, Try.ntmps8
    go_wp2
    all_goals (go_returns; refine ⟨ret_int2 ?_ ?_, rfl⟩ <;> (try unfold lmakeE) <;> unfold lmake <;> split <;> (try split) <;> first | rfl | omega | (simp_all; done) | (simp_all; omega))

theorem lit_Index (l : Int) (w : World) : Calls Try.prog 15 #[.int .i64 l] w fun e w' => e = .returned (.int .i64 (lindex l)) ∧ w' = w := by
  have hb := lvar_bd l
  by_cases h : lvar l = 0
  · have h' : (lvar l == 0) = true := by simpa using h
    have h'' : (lvar l != 0) = false := by simpa using h
    have e : lindex l = -1 := by unfold lindex; rw [if_pos h]
    rw [e]; clear e h
    go_enter Try.func15, Try.ntmps15
    go_wp2_with (go_at_call 12; refine (lit_Var _ _).mono ?_; rintro e w' ⟨rfl, rfl⟩)
    all_goals (go_returns; exact ⟨rfl, rfl⟩)
  · have h' : (lvar l == 0) = false := by simpa using h
    have h'' : (lvar l != 0) = true := by simpa using h
    have e : lindex l = if l < 0 then 2 * lvar l - 1 else 2 * lvar l - 2 := by unfold lindex; rw [if_neg h]
    rw [e]; clear e h
    go_enter Try.func15, Try.ntmps15
    go_wp2_with (go_at_call 12; refine (lit_Var _ _).mono ?_; rintro e w' ⟨rfl, rfl⟩)
    all_goals (go_returns; refine ⟨ret_int ?_, rfl⟩; first | omega | (split <;> omega))

theorem lit_From (i : Int) (w : World) : Calls Try.prog 17 #[.int .i64 i] w fun e w' => e = .returned (.int .i64 (lfrom i)) ∧ w' = w := by
  go_enter Try.func17, Try.ntmps17
  go_wp2
  all_goals (go_returns; refine ⟨ret_int ?_, rfl⟩; unfold lfrom; split <;> (try split) <;> (try omega) <;> (simp_all; try omega))

/-! ### The reference -/

theorem ref_Split (l : Int) (w : World) : Calls Try.prog 7 #[.int .i64 l] w fun e w' => e = .returned (.tuple #[.int .i64 (lvar l), .bool (lside l)]) ∧ w' = w := by
  go_enter Try.func7, Try.ntmps7
  go_wp2
  all_goals (go_returns; refine ⟨ret_intb ?_ ?_, rfl⟩ <;> (try unfold lside) <;> unfold lvar <;> split <;> (try split) <;> (try omega) <;> (simp; try omega))

theorem ref_Check (l vars : Int) (w : World) : Calls Try.prog 11 #[.int .i64 l, .int .i64 vars] w fun e w' => e = .returned (.int .i64 (lcheck l vars)) ∧ w' = w := by
  have hb := lvar_bd l
  go_enter Try.func11, Try.ntmps11
  go_wp2_with (go_at_call 7; refine (ref_Split _ _).mono ?_; rintro e w' ⟨rfl, rfl⟩)
  all_goals (go_returns; refine ⟨ret_int ?_, rfl⟩; unfold lcheck; split <;> (try split) <;> (try omega) <;> (simp_all; try omega))

theorem ref_Join (v : Int) (t : Bool) (w : World) : Calls Try.prog 9 #[.int .i64 v, .bool t] w fun e w' => e = .returned (.int .i64 (lmake v t)) ∧ w' = w := by
  cases t
  all_goals
    go_enter Try.func9, Try.ntmps9
    go_wp2
    all_goals (go_returns; refine ⟨ret_int ?_, rfl⟩; unfold lmake; split <;> (try split) <;> first | rfl | omega | (simp_all; done) | (simp_all; omega))

theorem ref_Neg (l : Int) (w : World) : Calls Try.prog 14 #[.int .i64 l] w fun e w' => e = .returned (.int .i64 (lneg l)) ∧ w' = w := by
  have e : lneg l = lmake (lvar l) (!lside l) := by
    unfold lneg lmake lside; have hb := lvar_bd l; split
    · rw [if_pos (by omega)]
    · rename_i h; have hr := lvar_range h; rw [if_neg (by omega)]; unfold lvar at h ⊢; split <;> simp <;> (try split) <;> simp_all <;> omega
  rw [e]; clear e
  go_enter Try.func14, Try.ntmps14
  go_wp2_with (first | (go_at_call 7; refine (ref_Split _ _).mono ?_; rintro e w' ⟨rfl, rfl⟩) | (go_at_call 9; refine (ref_Join _ _ _).mono ?_; rintro e w' ⟨rfl, rfl⟩))
  all_goals (go_returns; exact ⟨rfl, rfl⟩)

theorem ref_Index (l : Int) (w : World) : Calls Try.prog 16 #[.int .i64 l] w fun e w' => e = .returned (.int .i64 (lindex l)) ∧ w' = w := by
  have hb := lvar_bd l
  by_cases h : lvar l = 0
  · have h' : (lvar l == 0) = true := by simpa using h
    have hs : lside l = false := by unfold lside; simp [h]
    have e : lindex l = -1 := by unfold lindex; rw [if_pos h]
    rw [e]; clear e h
    go_enter Try.func16, Try.ntmps16
    go_wp2_with (go_at_call 7; refine (ref_Split _ _).mono ?_; rintro e w' ⟨rfl, rfl⟩)
    all_goals (go_returns; exact ⟨rfl, rfl⟩)
  · have h' : (lvar l == 0) = false := by simpa using h
    by_cases hp : l < 0
    · have hs : lside l = false := by unfold lside; simp; omega
      have e : lindex l = 2 * lvar l - 1 := by unfold lindex; rw [if_neg h, if_pos hp]
      rw [e]; clear e h
      go_enter Try.func16, Try.ntmps16
      go_wp2_with (go_at_call 7; refine (ref_Split _ _).mono ?_; rintro e w' ⟨rfl, rfl⟩)
      all_goals (go_returns; exact ⟨rfl, rfl⟩)
    · have hs : lside l = true := by have := lvar_range h; unfold lside; simp; omega
      have e : lindex l = 2 * lvar l - 2 := by unfold lindex; rw [if_neg h, if_neg hp]
      rw [e]; clear e h
      go_enter Try.func16, Try.ntmps16
      go_wp2_with (go_at_call 7; refine (ref_Split _ _).mono ?_; rintro e w' ⟨rfl, rfl⟩)
      all_goals (go_returns; exact ⟨rfl, rfl⟩)

theorem ref_From (i : Int) (w : World) : Calls Try.prog 18 #[.int .i64 i] w fun e w' => e = .returned (.int .i64 (lfrom i)) ∧ w' = w := by
  by_cases h : i < 0 ∨ 200000 ≤ i
  · have e : lfrom i = 0 := by unfold lfrom; rw [if_pos h]
    rw [e]; clear e
    go_enter Try.func18, Try.ntmps18
    go_wp2_with fail
    all_goals first | (exfalso; omega) | (go_returns; exact ⟨rfl, rfl⟩)
  · have e : lfrom i = lmake (i / 2 + 1) (i % 2 == 0) := by
      have hj : ¬(i / 2 + 1 < 1 ∨ 100000 < i / 2 + 1) := by omega
      unfold lfrom lmake; rw [if_neg h, if_neg hj]
      rcases Int.emod_two_eq i with h0 | h0 <;> simp [h0]
    have h1 : 0 ≤ i := by omega
    have h2 : i < 200000 := by omega
    rw [e]; clear e h
    go_enter Try.func18, Try.ntmps18
    go_wp2_with (go_at_call 9; refine (ref_Join _ _ _).mono ?_; rintro e w' ⟨rfl, rfl⟩)
    all_goals first | (exfalso; omega) | (go_returns; exact ⟨rfl, rfl⟩)

/-! ### Lists of numbers -/

theorem lit_Most (a : Option Addr) (len cap : Nat) (xs : List Int) (w : World) (hr : IntRow w a len xs) : Calls Try.prog 22 #[.slice a len cap] w fun e w' => e = .returned (.int .i64 (lmost xs)) ∧ w' = w := by
  obtain ⟨hl, hm, hc⟩ := hr
  unfold maxLen at hm
  have HC := Lib.hid hc; clear hc
  have HL := Lib.hid hl; clear hl
  go_enter Try.func22, Try.ntmps22
  go_wp2
  go_loop [3, 9] (fun m i => ∃ k : Nat, k ≤ len ∧ i = .int .i64 k ∧ m = .int .i64 (lmost (xs.take k))) (fun _ i => len - (intOf i).toNat)
  case atStart => exact ⟨0, Nat.zero_le _, rfl, rfl⟩
  case round =>
    obtain ⟨k, hk, rfl, rfl⟩ := hrel
    by_cases hlt : k < len
    · obtain ⟨b, off, rfl, hcell⟩ := HC.out (by omega)
      have hc := hcell k hlt
      have HS := Lib.hid (lmost_snoc (xs.take k) (xs.getD k 0))
      have HT := Lib.hid (take_snoc xs k (by rw [HL.out]; exact hlt))
      clear hcell
      go_wp2_with (go_at_call 24; refine (lit_variable _ _).mono ?_; rintro e w' ⟨rfl, rfl⟩)
      all_goals
        go_round
        case rel => exact ⟨k + 1, by omega, by go_num, by rw [HT.out, HS.out]; go_num⟩
        case measure => simp [intOf]; omega
    · go_wp2
      go_ret
      exact ⟨ret_int (by rw [List.take_of_length_le (by rw [HL.out]; omega)]), rfl⟩

theorem ref_Most (a : Option Addr) (len cap : Nat) (xs : List Int) (w : World) (hr : IntRow w a len xs) : Calls Try.prog 23 #[.slice a len cap] w fun e w' => e = .returned (.int .i64 (lmost xs)) ∧ w' = w := by
  obtain ⟨hl, hm, hc⟩ := hr
  unfold maxLen at hm
  have HC := Lib.hid hc; clear hc
  have HL := Lib.hid hl; clear hl
  go_enter Try.func23, Try.ntmps23
  go_wp2
  go_loop [3, 4] (fun m i => ∃ k : Nat, k ≤ len ∧ i = .int .i64 k ∧ m = .int .i64 (lmost (xs.take k))) (fun _ i => len - (intOf i).toNat)
  case atStart => exact ⟨0, Nat.zero_le _, rfl, rfl⟩
  case round =>
    obtain ⟨k, hk, rfl, rfl⟩ := hrel
    by_cases hlt : k < len
    · obtain ⟨b, off, rfl, hcell⟩ := HC.out (by omega)
      have hc := hcell k hlt
      have HS := Lib.hid (lmost_snoc (xs.take k) (xs.getD k 0))
      have HT := Lib.hid (take_snoc xs k (by rw [HL.out]; exact hlt))
      clear hcell
      go_wp2_with (go_at_call 7; refine (ref_Split _ _).mono ?_; rintro e w' ⟨rfl, rfl⟩)
      all_goals
        go_round
        case rel => exact ⟨k + 1, by omega, by go_num, by rw [HT.out, HS.out]; refine congrArg (Value.int .i64) ?_; simp_all; omega⟩
        case measure => simp [intOf]; omega
    · go_wp2
      go_ret
      exact ⟨ret_int (by rw [List.take_of_length_le (by rw [HL.out]; omega)]), rfl⟩

theorem sl_Index (a : Option Addr) (len cap : Nat) (xs : List Int) (v : Int) (w : World) (hr : IntRow w a len xs) : Calls Try.prog 27 #[.slice a len cap, .int .i64 v] w fun e w' => ∃ i : Int, e = .returned (.int .i64 i) ∧ (0 ≤ i ↔ lhas xs v = true) ∧ w' = w := by
  obtain ⟨hl, hm, hc⟩ := hr
  unfold maxLen at hm
  have HC := Lib.hid hc; clear hc
  have HL := Lib.hid hl; clear hl
  go_enter Try.func27, Try.ntmps27
  go_wp2
  go_loop [8] (fun i => ∃ k : Nat, k ≤ len ∧ i = .int .i64 k ∧ lhas (xs.take k) v = false) (fun i => len - (intOf i).toNat)
  case atStart => exact ⟨0, Nat.zero_le _, rfl, rfl⟩
  case round =>
    obtain ⟨k, hk, rfl, HN⟩ := hrel
    have HN' := Lib.hid HN; clear HN
    by_cases hlt : k < len
    · obtain ⟨b, off, rfl, hcell⟩ := HC.out (by omega)
      have hc := hcell k hlt
      have HS := Lib.hid (lhas_snoc (xs.take k) (xs.getD k 0) v)
      have HT := Lib.hid (take_snoc xs k (by rw [HL.out]; exact hlt))
      clear hcell
      go_wp2
      · go_ret
        refine ⟨_, rfl, ⟨fun _ => ?_, fun _ => by omega⟩, rfl⟩
        have h1 : xs.getD k 0 ∈ xs := by rw [List.getD_eq_getElem?_getD, List.getElem?_eq_getElem (by rw [HL.out]; exact hlt)]; simp
        unfold lhas; rw [List.contains_iff_mem]
        simp_all
      · go_round
        case rel => exact ⟨k + 1, by omega, by go_num, by rw [HT.out, HS.out, HN'.out]; simp_all⟩
        case measure => simp [intOf]; omega
    · go_wp2
      go_ret
      refine ⟨_, rfl, ⟨fun h => by omega, fun h => ?_⟩, rfl⟩
      have h2 := HN'.out
      rw [List.take_of_length_le (by rw [HL.out]; omega), h] at h2
      cases h2

theorem sl_Contains (a : Option Addr) (len cap : Nat) (xs : List Int) (v : Int) (w : World) (hr : IntRow w a len xs) : Calls Try.prog 26 #[.slice a len cap, .int .i64 v] w fun e w' => e = .returned (.bool (lhas xs v)) ∧ w' = w := by
  cases hb : lhas xs v
  all_goals
    have HB := Lib.hid hb
    clear hb
    go_enter Try.func26, Try.ntmps26
    go_wp2_with (go_at_call 27; refine (sl_Index _ _ _ _ _ _ hr).mono ?_; rintro e w' ⟨i, rfl, hi, rfl⟩; rw [HB.out] at hi; simp at hi)
    all_goals (go_returns; exact ⟨ret_bool (by first | (simp; done) | (simp; omega)), rfl⟩)

end Go.Proofs.Ytinfdlkolkndlaa
