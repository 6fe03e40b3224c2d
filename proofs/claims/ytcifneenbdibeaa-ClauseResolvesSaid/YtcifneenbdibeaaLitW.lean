/- The contracts of package lit and of its reference: what each call answers; nothing that was there changes. -/
import Derived.Test.YtcifneenbdibeaaRows
import Derived.WalkKit
import Derived.WalkSpells
import Derived.WalkLawsBesides
import Derived.BigGuardPart
import Derived.Handy
import Derived.Lib.Hide
import Derived.Test.YtcifneenbdibeaaLitP
import Derived.Test.YtcifneenbdibeaaMem
import Derived.Test.YtcifneenbdibeaaSplit
namespace Go.Proofs.Ytcifneenbdibeaa
open Go.RowKit
set_option linter.unusedVariables false

theorem lit_variable (l : Int) (w : World) : Calls Try.prog 41 #[.int .i64 l] w fun e w' => e = .returned (.int .i64 (lvar l)) ∧ w' = w := by
  go_enter Try.func41, Try.ntmps41
  go_wp2
  all_goals (go_returns; refine ⟨ret_int ?_, rfl⟩; unfold lvar; split <;> (try split) <;> omega)

theorem lit_Var (l : Int) (w : World) : Calls Try.prog 31 #[.int .i64 l] w fun e w' => e = .returned (.int .i64 (lvar l)) ∧ w' = w := by
  go_enter Try.func31, Try.ntmps31
  go_wp2_with (go_at_call 41; refine (lit_variable _ _).mono ?_; rintro e w' ⟨rfl, rfl⟩)
  go_ret
  exact ⟨rfl, rfl⟩

theorem lit_Check (l vars : Int) (w : World) : Calls Try.prog 25 #[.int .i64 l, .int .i64 vars] w fun e w' => e = .returned (.int .i64 (lcheck l vars)) ∧ w' = w := by
  have hb := lvar_bd l
  go_enter Try.func25, Try.ntmps25
  go_wp2_with (go_at_call 31; refine (lit_Var _ _).mono ?_; rintro e w' ⟨rfl, rfl⟩)
  all_goals (go_returns; refine ⟨ret_int ?_, rfl⟩; unfold lcheck; split <;> (try split) <;> (try omega) <;> (simp_all; try omega))

theorem lit_Index (l : Int) (w : World) : Calls Try.prog 39 #[.int .i64 l] w fun e w' => e = .returned (.int .i64 (lindex l)) ∧ w' = w := by
  have hb := lvar_bd l
  by_cases h : lvar l = 0
  · have h' : (lvar l == 0) = true := by simpa using h
    have h'' : (lvar l != 0) = false := by simpa using h
    have e : lindex l = -1 := by unfold lindex; rw [if_pos h]
    rw [e]; clear e h
    go_enter Try.func39, Try.ntmps39
    go_wp2_with (go_at_call 31; refine (lit_Var _ _).mono ?_; rintro e w' ⟨rfl, rfl⟩)
    all_goals (go_returns; exact ⟨rfl, rfl⟩)
  · have h' : (lvar l == 0) = false := by simpa using h
    have h'' : (lvar l != 0) = true := by simpa using h
    have e : lindex l = if l < 0 then 2 * lvar l - 1 else 2 * lvar l - 2 := by unfold lindex; rw [if_neg h]
    rw [e]; clear e h
    go_enter Try.func39, Try.ntmps39
    go_wp2_with (go_at_call 31; refine (lit_Var _ _).mono ?_; rintro e w' ⟨rfl, rfl⟩)
    all_goals (go_returns; refine ⟨ret_int ?_, rfl⟩; first | omega | (split <;> omega))

/-! ### The reference -/

theorem ref_Check (l vars : Int) (w : World) : Calls Try.prog 26 #[.int .i64 l, .int .i64 vars] w fun e w' => e = .returned (.int .i64 (lcheck l vars)) ∧ w' = w := by
  have hb := lvar_bd l
  go_enter Try.func26, Try.ntmps26
  go_wp2_with (go_at_call 35; refine (ref_Split _ _).mono ?_; rintro e w' ⟨rfl, rfl⟩)
  all_goals (go_returns; refine ⟨ret_int ?_, rfl⟩; unfold lcheck; split <;> (try split) <;> (try omega) <;> (simp_all; try omega))

theorem ref_Join (v : Int) (t : Bool) (w : World) : Calls Try.prog 43 #[.int .i64 v, .bool t] w fun e w' => e = .returned (.int .i64 (lmake v t)) ∧ w' = w := by
  cases t
  all_goals
    go_enter Try.func43, Try.ntmps43
    go_wp2
    all_goals (go_returns; refine ⟨ret_int ?_, rfl⟩; unfold lmake; split <;> (try split) <;> first | rfl | omega | (simp_all; done) | (simp_all; omega))

theorem ref_Neg (l : Int) (w : World) : Calls Try.prog 33 #[.int .i64 l] w fun e w' => e = .returned (.int .i64 (lneg l)) ∧ w' = w := by
  have e : lneg l = lmake (lvar l) (!lside l) := by
    unfold lneg lmake lside; have hb := lvar_bd l; split
    · rw [if_pos (by omega)]
    · rename_i h; have hr := lvar_range h; rw [if_neg (by omega)]; unfold lvar at h ⊢; split <;> simp <;> (try split) <;> simp_all <;> omega
  rw [e]; clear e
  go_enter Try.func33, Try.ntmps33
  go_wp2_with (first | (go_at_call 35; refine (ref_Split _ _).mono ?_; rintro e w' ⟨rfl, rfl⟩) | (go_at_call 43; refine (ref_Join _ _ _).mono ?_; rintro e w' ⟨rfl, rfl⟩))
  all_goals (go_returns; exact ⟨rfl, rfl⟩)

theorem ref_Index (l : Int) (w : World) : Calls Try.prog 30 #[.int .i64 l] w fun e w' => e = .returned (.int .i64 (lindex l)) ∧ w' = w := by
  have hb := lvar_bd l
  by_cases h : lvar l = 0
  · have h' : (lvar l == 0) = true := by simpa using h
    have hs : lside l = false := by unfold lside; simp [h]
    have e : lindex l = -1 := by unfold lindex; rw [if_pos h]
    rw [e]; clear e h
    go_enter Try.func30, Try.ntmps30
    go_wp2_with (go_at_call 35; refine (ref_Split _ _).mono ?_; rintro e w' ⟨rfl, rfl⟩)
    all_goals (go_returns; exact ⟨rfl, rfl⟩)
  · have h' : (lvar l == 0) = false := by simpa using h
    by_cases hp : l < 0
    · have hs : lside l = false := by unfold lside; simp; omega
      have e : lindex l = 2 * lvar l - 1 := by unfold lindex; rw [if_neg h, if_pos hp]
      rw [e]; clear e h
      go_enter Try.func30, Try.ntmps30
      go_wp2_with (go_at_call 35; refine (ref_Split _ _).mono ?_; rintro e w' ⟨rfl, rfl⟩)
      all_goals (go_returns; exact ⟨rfl, rfl⟩)
    · have hs : lside l = true := by have := lvar_range h; unfold lside; simp; omega
      have e : lindex l = 2 * lvar l - 2 := by unfold lindex; rw [if_neg h, if_neg hp]
      rw [e]; clear e h
      go_enter Try.func30, Try.ntmps30
      go_wp2_with (go_at_call 35; refine (ref_Split _ _).mono ?_; rintro e w' ⟨rfl, rfl⟩)
      all_goals (go_returns; exact ⟨rfl, rfl⟩)

/-! ### Lists of numbers -/

theorem sl_Index (a : Option Addr) (len cap : Nat) (xs : List Int) (v : Int) (w : World) (hr : IntRow w a len xs) : Calls Try.prog 42 #[.slice a len cap, .int .i64 v] w fun e w' => ∃ i : Int, e = .returned (.int .i64 i) ∧ (0 ≤ i ↔ lhas xs v = true) ∧ w' = w := by
  obtain ⟨hl, hm, hc⟩ := hr
  unfold maxLen at hm
  have HC := Lib.hid hc; clear hc
  have HL := Lib.hid hl; clear hl
  go_enter Try.func42, Try.ntmps42
  go_wp2
  go_loop [8] (fun i => ∃ k : Nat, k ≤ len ∧ i = .int .i64 k ∧ lhas (xs.take k) v = false) (fun i => len - (intOf i).toNat)
  case atStart => exact ⟨0, Nat.zero_le _, rfl, rfl⟩
  case round =>
    obtain ⟨k, hk, rfl, HN⟩ := hrel
    have HN' := Lib.hid HN; clear HN
    by_cases hlt : k < len
    · obtain ⟨b, off, rfl, hcell⟩ := HC.out (by omega)
      have hc := hcell k hlt
      have HS := Lib.hid (lhas_snoc (xs.take k) (xs.getD k 0) v)
      have HT := Lib.hid (take_snoc xs k (by rw [HL.out]; exact hlt))
      clear hcell
      go_wp2
      · go_ret
        refine ⟨_, rfl, ⟨fun _ => ?_, fun _ => by omega⟩, rfl⟩
        have h1 : xs.getD k 0 ∈ xs := by rw [List.getD_eq_getElem?_getD, List.getElem?_eq_getElem (by rw [HL.out]; exact hlt)]; simp
        unfold lhas; rw [List.contains_iff_mem]
        simp_all
      · go_round
        case rel => exact ⟨k + 1, by omega, by go_num, by rw [HT.out, HS.out, HN'.out]; simp_all⟩
        case measure => simp [intOf]; omega
    · go_wp2
      go_ret
      refine ⟨_, rfl, ⟨fun h => by omega, fun h => ?_⟩, rfl⟩
      have h2 := HN'.out
      rw [List.take_of_length_le (by rw [HL.out]; omega), h] at h2
      cases h2

theorem sl_Contains (a : Option Addr) (len cap : Nat) (xs : List Int) (v : Int) (w : World) (hr : IntRow w a len xs) : Calls Try.prog 32 #[.slice a len cap, .int .i64 v] w fun e w' => e = .returned (.bool (lhas xs v)) ∧ w' = w := by
  cases hb : lhas xs v
  all_goals
    have HB := Lib.hid hb
    clear hb
    go_enter Try.func32, Try.ntmps32
    go_wp2_with (go_at_call 42; refine (sl_Index _ _ _ _ _ _ hr).mono ?_; rintro e w' ⟨i, rfl, hi, rfl⟩; rw [HB.out] at hi; simp at hi)
    all_goals (go_returns; exact ⟨ret_bool (by first | (simp; done) | (simp; omega)), rfl⟩)

end Go.Proofs.Ytcifneenbdibeaa
