import Derived.Test.YthgmjboldboclaaDoorRows
import Derived.WalkKit
import Derived.WalkSpells
import Derived.WalkLawsBesides
import Derived.BigGuardPart
import Derived.Handy
import Derived.Lib.Hide
import Derived.Test.YthgmjboldboclaaDoorMgAA
namespace Go.Proofs.YthgmjboldboclaaDoor
def lvar (l : Int) : Int := if 1 ≤ l ∧ l ≤ 100000 then l else if -100000 ≤ l ∧ l ≤ -1 then -l else 0
def lside (l : Int) : Bool := decide (lvar l ≠ 0 ∧ 0 < l)
def lcheck (l vars : Int) : Int := if vars < 0 ∨ 100000 < vars then 2 else if lvar l = 0 ∨ vars < lvar l then 10 else 0
def lneg (l : Int) : Int := if lvar l = 0 then 0 else -l
def lindex (l : Int) : Int := if lvar l = 0 then -1 else if l < 0 then 2 * lvar l - 1 else 2 * lvar l - 2
def lfrom (i : Int) : Int := if i < 0 ∨ 200000 ≤ i then 0 else if i % 2 = 1 then -(i / 2 + 1) else i / 2 + 1
def lmake (v : Int) (t : Bool) : Int := if v < 1 ∨ 100000 < v then 0 else if t then v else -v
def lmakeE (v : Int) (t : Bool) : Int := if lmake v t = 0 then 10 else 0
def lhas (xs : List Int) (v : Int) : Bool := xs.contains v
def lof (xs : List Int) (v : Int) : Int :=
  if v < 1 ∨ 100000 < v then 0 else if lhas xs v = true ∧ lhas xs (-v) = true then 2 else if lhas xs v = true then 1 else if lhas xs (-v) = true then -1 else 0
def lmost (xs : List Int) : Int := xs.foldl (fun m l => max m (lvar l)) 0
theorem lvar_bd (l : Int) : 0 ≤ lvar l ∧ lvar l ≤ 100000 := by unfold lvar; split <;> (try split) <;> omega
theorem lvar_range {l : Int} (h : lvar l ≠ 0) : -100000 ≤ l ∧ l ≤ 100000 ∧ l ≠ 0 := by unfold lvar at h; split at h <;> (try split at h) <;> omega
theorem lcheck_ok (l vars : Int) : lcheck l vars = 0 ↔ (0 ≤ vars ∧ vars ≤ 100000 ∧ lvar l ≠ 0 ∧ lvar l ≤ vars) := by unfold lcheck; split <;> (try split) <;> omega
theorem lindex_bd (l : Int) : -1 ≤ lindex l ∧ lindex l ≤ 199999 := by have := lvar_bd l; unfold lindex; split <;> (try split) <;> omega
theorem lfrom_index {l : Int} (h : lvar l ≠ 0) : lfrom (lindex l) = l := by
  have := lvar_range h
  unfold lindex; rw [if_neg h]
  unfold lvar lfrom
  split <;> split <;> (try split) <;> (try split) <;> omega
theorem lhas_snoc (xs : List Int) (l v : Int) : lhas (xs ++ [l]) v = (lhas xs v || v == l) := by
  unfold lhas; rw [Bool.eq_iff_iff]; simp
theorem take_snoc (xs : List Int) (k : Nat) (h : k < xs.length) : xs.take (k + 1) = xs.take k ++ [xs.getD k 0] := by
  rw [List.take_succ_eq_append_getElem h]; simp [List.getD, h]
end Go.Proofs.YthgmjboldboclaaDoor
namespace Go.Proofs.YthgmjboldboclaaDoor
open Go.RowKit
set_option linter.unusedVariables false
theorem ref_Split (l : Int) (w : World) : Calls Tryd.prog 74 #[.int .i64 l] w fun e w' => e = .returned (.tuple #[.int .i64 (lvar l), .bool (lside l)]) ∧ w' = w := by
  go_enter Tryd.func74, Tryd.ntmps74
  go_wp2
  all_goals (go_returns; refine ⟨ret_intb ?_ ?_, rfl⟩ <;> (try unfold lside) <;> unfold lvar <;> split <;> (try split) <;> (try omega) <;> (simp; try omega))
end Go.Proofs.YthgmjboldboclaaDoor
namespace Go.Proofs.YthgmjboldboclaaDoor
open Go.RowKit
set_option linter.unusedVariables false
theorem lit_variable (l : Int) (w : World) : Calls Tryd.prog 67 #[.int .i64 l] w fun e w' => e = .returned (.int .i64 (lvar l)) ∧ w' = w := by
  go_enter Tryd.func67, Tryd.ntmps67
  go_wp2
  all_goals (go_returns; refine ⟨ret_int ?_, rfl⟩; unfold lvar; split <;> (try split) <;> omega)
theorem lit_Var (l : Int) (w : World) : Calls Tryd.prog 55 #[.int .i64 l] w fun e w' => e = .returned (.int .i64 (lvar l)) ∧ w' = w := by
  go_enter Tryd.func55, Tryd.ntmps55
  go_wp2_with (go_at_call 67; refine (lit_variable _ _).mono ?_; rintro e w' ⟨rfl, rfl⟩)
  go_ret
  exact ⟨rfl, rfl⟩
theorem lit_Check (l vars : Int) (w : World) : Calls Tryd.prog 54 #[.int .i64 l, .int .i64 vars] w fun e w' => e = .returned (.int .i64 (lcheck l vars)) ∧ w' = w := by
  have hb := lvar_bd l
  go_enter Tryd.func54, Tryd.ntmps54
  go_wp2_with (go_at_call 55; refine (lit_Var _ _).mono ?_; rintro e w' ⟨rfl, rfl⟩)
  all_goals (go_returns; refine ⟨ret_int ?_, rfl⟩; unfold lcheck; split <;> (try split) <;> (try omega) <;> (simp_all; try omega))
theorem lit_Neg (l : Int) (w : World) : Calls Tryd.prog 47 #[.int .i64 l] w fun e w' => e = .returned (.int .i64 (lneg l)) ∧ w' = w := by
  by_cases h : lvar l = 0
  · have h' : (lvar l == 0) = true := by simpa using h
    have e : lneg l = 0 := by unfold lneg; rw [if_pos h]
    rw [e]; clear e h
    go_enter Tryd.func47, Tryd.ntmps47
    go_wp2_with (go_at_call 55; refine (lit_Var _ _).mono ?_; rintro e w' ⟨rfl, rfl⟩)
    go_ret
    exact ⟨rfl, rfl⟩
  · have h' : (lvar l == 0) = false := by simpa using h
    have hr := lvar_range h
    have e : lneg l = -l := by unfold lneg; rw [if_neg h]
    rw [e]; clear e h
    go_enter Tryd.func47, Tryd.ntmps47
    go_wp2_with (go_at_call 55; refine (lit_Var _ _).mono ?_; rintro e w' ⟨rfl, rfl⟩)
    go_ret
    exact ⟨rfl, rfl⟩
theorem ref_Check (l vars : Int) (w : World) : Calls Tryd.prog 64 #[.int .i64 l, .int .i64 vars] w fun e w' => e = .returned (.int .i64 (lcheck l vars)) ∧ w' = w := by
  have hb := lvar_bd l
  go_enter Tryd.func64, Tryd.ntmps64
  go_wp2_with (go_at_call 74; refine (ref_Split _ _).mono ?_; rintro e w' ⟨rfl, rfl⟩)
  all_goals (go_returns; refine ⟨ret_int ?_, rfl⟩; unfold lcheck; split <;> (try split) <;> (try omega) <;> (simp_all; try omega))
theorem ref_Join (v : Int) (t : Bool) (w : World) : Calls Tryd.prog 76 #[.int .i64 v, .bool t] w fun e w' => e = .returned (.int .i64 (lmake v t)) ∧ w' = w := by
  cases t
  all_goals
    go_enter Tryd.func76, Tryd.ntmps76
    go_wp2
    all_goals (go_returns; refine ⟨ret_int ?_, rfl⟩; unfold lmake; split <;> (try split) <;> first | rfl | omega | (simp_all; done) | (simp_all; omega))
theorem ref_Neg (l : Int) (w : World) : Calls Tryd.prog 66 #[.int .i64 l] w fun e w' => e = .returned (.int .i64 (lneg l)) ∧ w' = w := by
  have e : lneg l = lmake (lvar l) (!lside l) := by
    unfold lneg lmake lside; have hb := lvar_bd l; split
    · rw [if_pos (by omega)]
    · rename_i h; have hr := lvar_range h; rw [if_neg (by omega)]; unfold lvar at h ⊢; split <;> simp <;> (try split) <;> simp_all <;> omega
  rw [e]; clear e
  go_enter Tryd.func66, Tryd.ntmps66
  go_wp2_with (first | (go_at_call 74; refine (ref_Split _ _).mono ?_; rintro e w' ⟨rfl, rfl⟩) | (go_at_call 76; refine (ref_Join _ _ _).mono ?_; rintro e w' ⟨rfl, rfl⟩))
  all_goals (go_returns; exact ⟨rfl, rfl⟩)
theorem ref_Index (l : Int) (w : World) : Calls Tryd.prog 75 #[.int .i64 l] w fun e w' => e = .returned (.int .i64 (lindex l)) ∧ w' = w := by
  have hb := lvar_bd l
  by_cases h : lvar l = 0
  · have h' : (lvar l == 0) = true := by simpa using h
    have hs : lside l = false := by unfold lside; simp [h]
    have e : lindex l = -1 := by unfold lindex; rw [if_pos h]
    rw [e]; clear e h
    go_enter Tryd.func75, Tryd.ntmps75
    go_wp2_with (go_at_call 74; refine (ref_Split _ _).mono ?_; rintro e w' ⟨rfl, rfl⟩)
    all_goals (go_returns; exact ⟨rfl, rfl⟩)
  · have h' : (lvar l == 0) = false := by simpa using h
    by_cases hp : l < 0
    · have hs : lside l = false := by unfold lside; simp; omega
      have e : lindex l = 2 * lvar l - 1 := by unfold lindex; rw [if_neg h, if_pos hp]
      rw [e]; clear e h
      go_enter Tryd.func75, Tryd.ntmps75
      go_wp2_with (go_at_call 74; refine (ref_Split _ _).mono ?_; rintro e w' ⟨rfl, rfl⟩)
      all_goals (go_returns; exact ⟨rfl, rfl⟩)
    · have hs : lside l = true := by have := lvar_range h; unfold lside; simp; omega
      have e : lindex l = 2 * lvar l - 2 := by unfold lindex; rw [if_neg h, if_neg hp]
      rw [e]; clear e h
      go_enter Tryd.func75, Tryd.ntmps75
      go_wp2_with (go_at_call 74; refine (ref_Split _ _).mono ?_; rintro e w' ⟨rfl, rfl⟩)
      all_goals (go_returns; exact ⟨rfl, rfl⟩)
end Go.Proofs.YthgmjboldboclaaDoor
