/- The contracts of package lit and of its reference: what each call answers; nothing that was there changes. -/
import Derived.Test.YtmaaoijlchfdgaaRows
import Derived.WalkKit
import Derived.WalkSpells
import Derived.WalkLawsBesides
import Derived.BigGuardPart
import Derived.Handy
import Derived.Lib.Hide
import Derived.Test.YtmaaoijlchfdgaaLitP
import Derived.Test.YtmaaoijlchfdgaaMem
import Derived.Test.YtmaaoijlchfdgaaSplit
namespace Go.Proofs.Ytmaaoijlchfdgaa
open Go.RowKit
set_option linter.unusedVariables false

theorem lit_variable (l : Int) (w : World) : Calls Try.prog 39 #[.int .i64 l] w fun e w' => e = .returned (.int .i64 (lvar l)) ∧ w' = w := by
  go_enter Try.func39, Try.ntmps39
  go_wp2
  all_goals (go_returns; refine ⟨ret_int ?_, rfl⟩; unfold lvar; split <;> (try split) <;> omega)

theorem lit_Var (l : Int) (w : World) : Calls Try.prog 29 #[.int .i64 l] w fun e w' => e = .returned (.int .i64 (lvar l)) ∧ w' = w := by
  go_enter Try.func29, Try.ntmps29
  go_wp2_with (go_at_call 39; refine (lit_variable _ _).mono ?_; rintro e w' ⟨rfl, rfl⟩)
  go_ret
  exact ⟨rfl, rfl⟩

theorem lit_Check (l vars : Int) (w : World) : Calls Try.prog 30 #[.int .i64 l, .int .i64 vars] w fun e w' => e = .returned (.int .i64 (lcheck l vars)) ∧ w' = w := by
  have hb := lvar_bd l
  go_enter Try.func30, Try.ntmps30
  go_wp2_with (go_at_call 29; refine (lit_Var _ _).mono ?_; rintro e w' ⟨rfl, rfl⟩)
  all_goals (go_returns; refine ⟨ret_int ?_, rfl⟩; unfold lcheck; split <;> (try split) <;> (try omega) <;> (simp_all; try omega))

theorem lit_Make (v : Int) (t : Bool) (w : World) : Calls Try.prog 34 #[.int .i64 v, .bool t] w fun e w' => e = .returned (.tuple #[.int .i64 (lmake v t), .int .i64 (lmakeE v t)]) ∧ w' = w := by
  cases t
  all_goals
    go_enter Try.func34, Try.ntmps34
    go_wp2
    all_goals (go_returns; refine ⟨ret_int2 ?_ ?_, rfl⟩ <;> (try unfold lmakeE) <;> unfold lmake <;> split <;> (try split) <;> first | rfl | omega | (simp_all; done) | (simp_all; omega))

/-! ### The reference -/

theorem ref_Check (l vars : Int) (w : World) : Calls Try.prog 25 #[.int .i64 l, .int .i64 vars] w fun e w' => e = .returned (.int .i64 (lcheck l vars)) ∧ w' = w := by
  have hb := lvar_bd l
  go_enter Try.func25, Try.ntmps25
  go_wp2_with (go_at_call 36; refine (ref_Split _ _).mono ?_; rintro e w' ⟨rfl, rfl⟩)
  all_goals (go_returns; refine ⟨ret_int ?_, rfl⟩; unfold lcheck; split <;> (try split) <;> (try omega) <;> (simp_all; try omega))

theorem ref_Join (v : Int) (t : Bool) (w : World) : Calls Try.prog 35 #[.int .i64 v, .bool t] w fun e w' => e = .returned (.int .i64 (lmake v t)) ∧ w' = w := by
  cases t
  all_goals
    go_enter Try.func35, Try.ntmps35
    go_wp2
    all_goals (go_returns; refine ⟨ret_int ?_, rfl⟩; unfold lmake; split <;> (try split) <;> first | rfl | omega | (simp_all; done) | (simp_all; omega))

theorem ref_Index (l : Int) (w : World) : Calls Try.prog 27 #[.int .i64 l] w fun e w' => e = .returned (.int .i64 (lindex l)) ∧ w' = w := by
  have hb := lvar_bd l
  by_cases h : lvar l = 0
  · have h' : (lvar l == 0) = true := by simpa using h
    have hs : lside l = false := by unfold lside; simp [h]
    have e : lindex l = -1 := by unfold lindex; rw [if_pos h]
    rw [e]; clear e h
    go_enter Try.func27, Try.ntmps27
    go_wp2_with (go_at_call 36; refine (ref_Split _ _).mono ?_; rintro e w' ⟨rfl, rfl⟩)
    all_goals (go_returns; exact ⟨rfl, rfl⟩)
  · have h' : (lvar l == 0) = false := by simpa using h
    by_cases hp : l < 0
    · have hs : lside l = false := by unfold lside; simp; omega
      have e : lindex l = 2 * lvar l - 1 := by unfold lindex; rw [if_neg h, if_pos hp]
      rw [e]; clear e h
      go_enter Try.func27, Try.ntmps27
      go_wp2_with (go_at_call 36; refine (ref_Split _ _).mono ?_; rintro e w' ⟨rfl, rfl⟩)
      all_goals (go_returns; exact ⟨rfl, rfl⟩)
    · have hs : lside l = true := by have := lvar_range h; unfold lside; simp; omega
      have e : lindex l = 2 * lvar l - 2 := by unfold lindex; rw [if_neg h, if_neg hp]
      rw [e]; clear e h
      go_enter Try.func27, Try.ntmps27
      go_wp2_with (go_at_call 36; refine (ref_Split _ _).mono ?_; rintro e w' ⟨rfl, rfl⟩)
      all_goals (go_returns; exact ⟨rfl, rfl⟩)

/-! ### Lists of numbers -/

theorem sl_Index (a : Option Addr) (len cap : Nat) (xs : List Int) (v : Int) (w : World) (hr : IntRow w a len xs) : Calls Try.prog 40 #[.slice a len cap, .int .i64 v] w fun e w' => ∃ i : Int, e = .returned (.int .i64 i) ∧ (0 ≤ i ↔ lhas xs v = true) ∧ w' = w := by
  obtain ⟨hl, hm, hc⟩ := hr
  unfold maxLen at hm
  have HC := Lib.hid hc; clear hc
  have HL := Lib.hid hl; clear hl
  go_enter Try.func40, Try.ntmps40
  go_wp2
  go_loop [8] (fun i => ∃ k : Nat, k ≤ len ∧ i = .int .i64 k ∧ lhas (xs.take k) v = false) (fun i => len - (intOf i).toNat)
  case atStart => exact ⟨0, Nat.zero_le _, rfl, rfl⟩
  case round =>
    obtain ⟨k, hk, rfl, HN⟩ := hrel
    have HN' := Lib.hid HN; clear HN
    by_cases hlt : k < len
    · obtain ⟨b, off, rfl, hcell⟩ := HC.out (by omega)
      have hc := hcell k hlt
      have HS := Lib.hid (lhas_snoc (xs.take k) (xs.getD k 0) v)
      have HT := Lib.hid (take_snoc xs k (by rw [HL.out]; exact hlt))
      clear hcell
      go_wp2
      · go_ret
        refine ⟨_, rfl, ⟨fun _ => ?_, fun _ => by omega⟩, rfl⟩
        have h1 : xs.getD k 0 ∈ xs := by rw [List.getD_eq_getElem?_getD, List.getElem?_eq_getElem (by rw [HL.out]; exact hlt)]; simp
        unfold lhas; rw [List.contains_iff_mem]
        simp_all
      · go_round
        case rel => exact ⟨k + 1, by omega, by go_num, by rw [HT.out, HS.out, HN'.out]; simp_all⟩
        case measure => simp [intOf]; omega
    · go_wp2
      go_ret
      refine ⟨_, rfl, ⟨fun h => by omega, fun h => ?_⟩, rfl⟩
      have h2 := HN'.out
      rw [List.take_of_length_le (by rw [HL.out]; omega), h] at h2
      cases h2

theorem sl_Contains (a : Option Addr) (len cap : Nat) (xs : List Int) (v : Int) (w : World) (hr : IntRow w a len xs) : Calls Try.prog 32 #[.slice a len cap, .int .i64 v] w fun e w' => e = .returned (.bool (lhas xs v)) ∧ w' = w := by
  cases hb : lhas xs v
  all_goals
    have HB := Lib.hid hb
    clear hb
    go_enter Try.func32, Try.ntmps32
    go_wp2_with (go_at_call 40; refine (sl_Index _ _ _ _ _ _ hr).mono ?_; rintro e w' ⟨i, rfl, hi, rfl⟩; rw [HB.out] at hi; simp at hi)
    all_goals (go_returns; exact ⟨ret_bool (by first | (simp; done) | (simp; omega)), rfl⟩)

end Go.Proofs.Ytmaaoijlchfdgaa
