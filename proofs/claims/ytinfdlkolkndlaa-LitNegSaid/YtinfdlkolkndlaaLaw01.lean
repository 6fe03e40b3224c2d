/- Layer 1's statements: LitTells, LitLists, LitBack and LitNeg are true for every input. -/
import Derived.Test.YtinfdlkolkndlaaLift
import Derived.Test.YtinfdlkolkndlaaLitA
namespace Go.Proofs.Ytinfdlkolkndlaa
open Go.ChangeShapes Go.WideShapes Go.ChangeAt Go.RowKit
open Go.ChangeMaps (open_string shut_string)
set_option linter.unusedVariables false

set_option maxHeartbeats 1000000 in
theorem litTells_walk (w : World) (l : Int) (wl : (Lit.int .i64 l).wf = true) (vars : Int) (wv : (Lit.int .i64 vars).wf = true) (t : Bool) :
    Calls Try.prog 3 #[.int .i64 l, .int .i64 vars, .bool t] w fun e w' => e = .returned (.bool true) ∧ Below w.heap.size w w' := by
  clear wl wv
  by_cases h : lmake l t = 0
  · have h1 : (lmake l t != 0) = false := by simp [h]
    have h2 : (lmakeE l t == 0) = false := by unfold lmakeE; simp [h]
    have h3 : (lmakeE l t == 10) = true := by unfold lmakeE; simp [h]
    clear h
    go_enter Try.func3, Try.ntmps3
    go_wp2_with (first | (go_at_call 8; refine (lit_Make _ _ _).mono ?_; rintro e w' ⟨rfl, rfl⟩) | (go_at_call 15; refine (lit_Index _ _).mono ?_; rintro e w' ⟨rfl, rfl⟩) | (go_at_call 17; refine (lit_From _ _).mono ?_; rintro e w' ⟨rfl, rfl⟩) | (go_at_call 12; refine (lit_Var _ _).mono ?_; rintro e w' ⟨rfl, rfl⟩) | (go_at_call 13; refine (lit_Neg _ _).mono ?_; rintro e w' ⟨rfl, rfl⟩) | (go_at_call 10; refine (lit_Check _ _ _).mono ?_; rintro e w' ⟨rfl, rfl⟩) | (go_at_call 7; refine (ref_Split _ _).mono ?_; rintro e w' ⟨rfl, rfl⟩) | (go_at_call 16; refine (ref_Index _ _).mono ?_; rintro e w' ⟨rfl, rfl⟩) | (go_at_call 18; refine (ref_From _ _).mono ?_; rintro e w' ⟨rfl, rfl⟩) | (go_at_call 9; refine (ref_Join _ _ _).mono ?_; rintro e w' ⟨rfl, rfl⟩) | (go_at_call 14; refine (ref_Neg _ _).mono ?_; rintro e w' ⟨rfl, rfl⟩) | (go_at_call 11; refine (ref_Check _ _ _).mono ?_; rintro e w' ⟨rfl, rfl⟩) | (go_at_call 19; refine (law01_awake _).mono ?_; rintro e w' ⟨rfl, hbAw⟩))
    all_goals (go_returns; exact ⟨rfl, by (repeat (first | (with_reducible exact Below.refl _ _) | (with_reducible assumption) | (with_reducible refine below_alloc ?_ _) | (with_reducible refine below_drew ?_) | (with_reducible refine below_drewN ?_ _) | (with_reducible refine below_step ?_ (by with_reducible assumption))))⟩)
  · have h1 : (lmake l t != 0) = true := by simp [h]
    have h2 : (lmakeE l t == 0) = true := by unfold lmakeE; simp [h]
    clear h
    go_enter Try.func3, Try.ntmps3
    go_wp2_with (first | (go_at_call 8; refine (lit_Make _ _ _).mono ?_; rintro e w' ⟨rfl, rfl⟩) | (go_at_call 15; refine (lit_Index _ _).mono ?_; rintro e w' ⟨rfl, rfl⟩) | (go_at_call 17; refine (lit_From _ _).mono ?_; rintro e w' ⟨rfl, rfl⟩) | (go_at_call 12; refine (lit_Var _ _).mono ?_; rintro e w' ⟨rfl, rfl⟩) | (go_at_call 13; refine (lit_Neg _ _).mono ?_; rintro e w' ⟨rfl, rfl⟩) | (go_at_call 10; refine (lit_Check _ _ _).mono ?_; rintro e w' ⟨rfl, rfl⟩) | (go_at_call 7; refine (ref_Split _ _).mono ?_; rintro e w' ⟨rfl, rfl⟩) | (go_at_call 16; refine (ref_Index _ _).mono ?_; rintro e w' ⟨rfl, rfl⟩) | (go_at_call 18; refine (ref_From _ _).mono ?_; rintro e w' ⟨rfl, rfl⟩) | (go_at_call 9; refine (ref_Join _ _ _).mono ?_; rintro e w' ⟨rfl, rfl⟩) | (go_at_call 14; refine (ref_Neg _ _).mono ?_; rintro e w' ⟨rfl, rfl⟩) | (go_at_call 11; refine (ref_Check _ _ _).mono ?_; rintro e w' ⟨rfl, rfl⟩) | (go_at_call 19; refine (law01_awake _).mono ?_; rintro e w' ⟨rfl, hbAw⟩))
    all_goals (go_returns; exact ⟨rfl, by (repeat (first | (with_reducible exact Below.refl _ _) | (with_reducible assumption) | (with_reducible refine below_alloc ?_ _) | (with_reducible refine below_drew ?_) | (with_reducible refine below_drewN ?_ _) | (with_reducible refine below_step ?_ (by with_reducible assumption))))⟩)

set_option maxHeartbeats 1000000 in
theorem litLists_walk (w : World) (a : Option Addr) (len cap : Nat) (xs : List Int) (hr : IntRow w a len xs) (hf : Fits xs) (v : Int) (wv : (Lit.int .i64 v).wf = true) :
    Calls Try.prog 4 #[.slice a len cap, .int .i64 v] w fun e w' => e = .returned (.bool true) ∧ Below w.heap.size w w' := by
  clear hf wv
  have HR := Lib.hid hr; clear hr
  by_cases h : 1000 < (len : Int)
  all_goals
    go_enter Try.func4, Try.ntmps4
    go_wp2_with (first | (go_at_call 19; refine (law01_awake _).mono ?_; rintro e w' ⟨rfl, hbAw⟩) | (go_at_call 20; refine (lit_Of _ _ _ _ _ _ HR.out).mono ?_; rintro e w' ⟨rfl, hb1⟩) | (go_at_call 21; refine (ref_Of _ _ _ _ _ _ (HR.out.later hb1)).mono ?_; rintro e w' ⟨rfl, rfl⟩) | (go_at_call 22; refine (lit_Most _ _ _ _ _ (HR.out.later hb1)).mono ?_; rintro e w' ⟨rfl, rfl⟩) | (go_at_call 23; refine (ref_Most _ _ _ _ _ (HR.out.later hb1)).mono ?_; rintro e w' ⟨rfl, rfl⟩))
    all_goals (go_returns; exact ⟨rfl, by (repeat (first | (with_reducible exact Below.refl _ _) | (with_reducible assumption) | (with_reducible refine below_alloc ?_ _) | (with_reducible refine below_drew ?_) | (with_reducible refine below_drewN ?_ _) | (with_reducible refine below_step ?_ (by with_reducible assumption))))⟩)

theorem checkOk (l : Int) : (lcheck l 100000 == 0) = (lvar l != 0) := by
  rw [Bool.eq_iff_iff]; simp [lcheck_max]

theorem lof_self {l : Int} (h : lvar l ≠ 0) : (lof [l] (lvar l) == 0) = false := by
  have h1 := lvar_bd l
  have h2 := lvar_range h
  have h3 : lvar l = l ∨ -lvar l = l := by unfold lvar; split <;> (try split) <;> omega
  have h4 : lof [l] (lvar l) ≠ 0 := by
    rw [lof_in _ (by omega) (by omega)]
    unfold lhas
    rcases h3 with h3 | h3
    · have : [l].contains (lvar l) = true := by simp [h3]
      rw [this]; split <;> simp
    · have : [l].contains (-lvar l) = true := by simp [h3]
      rw [this]; split <;> (try split) <;> simp
  simpa using h4

set_option maxHeartbeats 1000000 in
theorem litBack_walk (w : World) (l : Int) (wl : (Lit.int .i64 l).wf = true) (i : Int) (wi : (Lit.int .i64 i).wf = true) :
    Calls Try.prog 5 #[.int .i64 l, .int .i64 i] w fun e w' => e = .returned (.bool true) ∧ Below w.heap.size w w' := by
  clear wl wi
  have hx : (lfrom i != 0) = true → (lindex (lfrom i) != i) = false := by
    intro h; simpa using lindex_from (by simpa using h)
  have HX := Lib.hid hx; clear hx
  by_cases h : lvar l = 0
  · have h0 : (lcheck l 100000 == 0) = false := by rw [checkOk]; simp [h]
    clear h
    cases hz : (lfrom i != 0)
    · go_enter Try.func5, Try.ntmps5
      go_wp2_with (first | (go_at_call 8; refine (lit_Make _ _ _).mono ?_; rintro e w' ⟨rfl, rfl⟩) | (go_at_call 15; refine (lit_Index _ _).mono ?_; rintro e w' ⟨rfl, rfl⟩) | (go_at_call 17; refine (lit_From _ _).mono ?_; rintro e w' ⟨rfl, rfl⟩) | (go_at_call 12; refine (lit_Var _ _).mono ?_; rintro e w' ⟨rfl, rfl⟩) | (go_at_call 13; refine (lit_Neg _ _).mono ?_; rintro e w' ⟨rfl, rfl⟩) | (go_at_call 10; refine (lit_Check _ _ _).mono ?_; rintro e w' ⟨rfl, rfl⟩) | (go_at_call 19; refine (law01_awake _).mono ?_; rintro e w' ⟨rfl, hbAw⟩))
      all_goals (go_returns; exact ⟨rfl, by (repeat (first | (with_reducible exact Below.refl _ _) | (with_reducible assumption) | (with_reducible refine below_alloc ?_ _) | (with_reducible refine below_drew ?_) | (with_reducible refine below_drewN ?_ _) | (with_reducible refine below_step ?_ (by with_reducible assumption))))⟩)
    · have hy := HX.out hz
      go_enter Try.func5, Try.ntmps5
      go_wp2_with (first | (go_at_call 8; refine (lit_Make _ _ _).mono ?_; rintro e w' ⟨rfl, rfl⟩) | (go_at_call 15; refine (lit_Index _ _).mono ?_; rintro e w' ⟨rfl, rfl⟩) | (go_at_call 17; refine (lit_From _ _).mono ?_; rintro e w' ⟨rfl, rfl⟩) | (go_at_call 12; refine (lit_Var _ _).mono ?_; rintro e w' ⟨rfl, rfl⟩) | (go_at_call 13; refine (lit_Neg _ _).mono ?_; rintro e w' ⟨rfl, rfl⟩) | (go_at_call 10; refine (lit_Check _ _ _).mono ?_; rintro e w' ⟨rfl, rfl⟩) | (go_at_call 19; refine (law01_awake _).mono ?_; rintro e w' ⟨rfl, hbAw⟩))
      all_goals (go_returns; exact ⟨rfl, by (repeat (first | (with_reducible exact Below.refl _ _) | (with_reducible assumption) | (with_reducible refine below_alloc ?_ _) | (with_reducible refine below_drew ?_) | (with_reducible refine below_drewN ?_ _) | (with_reducible refine below_step ?_ (by with_reducible assumption))))⟩)
  · have h0 : (lcheck l 100000 == 0) = true := by rw [checkOk]; simp [h]
    have h1 : (lfrom (lindex l) != l) = false := by simpa using lfrom_index h
    have h2 : (lmake (lvar l) (decide (0 < l)) != l) = false := by simpa using lmake_back h
    have h3 : (lmakeE (lvar l) (decide (0 < l)) != 0) = false := by unfold lmakeE; rw [lmake_back h]; have := lvar_range h; simp; omega
    have h4 := lof_self h
    clear h
    cases hz : (lfrom i != 0)
    · go_enter Try.func5, Try.ntmps5
      go_wp2_with (first | (go_at_call 8; refine (lit_Make _ _ _).mono ?_; rintro e w' ⟨rfl, rfl⟩) | (go_at_call 15; refine (lit_Index _ _).mono ?_; rintro e w' ⟨rfl, rfl⟩) | (go_at_call 17; refine (lit_From _ _).mono ?_; rintro e w' ⟨rfl, rfl⟩) | (go_at_call 12; refine (lit_Var _ _).mono ?_; rintro e w' ⟨rfl, rfl⟩) | (go_at_call 13; refine (lit_Neg _ _).mono ?_; rintro e w' ⟨rfl, rfl⟩) | (go_at_call 10; refine (lit_Check _ _ _).mono ?_; rintro e w' ⟨rfl, rfl⟩) | (go_at_call 19; refine (law01_awake _).mono ?_; rintro e w' ⟨rfl, hbAw⟩))
      refine (lit_Of _ _ _ _ _ _ (IntRow.made _ _ [l] (by simp [maxLen]))).mono ?_
      rintro e w1 ⟨rfl, hb1⟩
      go_wp2_with (first | (go_at_call 8; refine (lit_Make _ _ _).mono ?_; rintro e w' ⟨rfl, rfl⟩) | (go_at_call 15; refine (lit_Index _ _).mono ?_; rintro e w' ⟨rfl, rfl⟩) | (go_at_call 17; refine (lit_From _ _).mono ?_; rintro e w' ⟨rfl, rfl⟩) | (go_at_call 12; refine (lit_Var _ _).mono ?_; rintro e w' ⟨rfl, rfl⟩) | (go_at_call 13; refine (lit_Neg _ _).mono ?_; rintro e w' ⟨rfl, rfl⟩) | (go_at_call 10; refine (lit_Check _ _ _).mono ?_; rintro e w' ⟨rfl, rfl⟩) | (go_at_call 19; refine (law01_awake _).mono ?_; rintro e w' ⟨rfl, hbAw⟩))
      all_goals (go_returns; exact ⟨rfl, by (repeat (first | (with_reducible exact Below.refl _ _) | (with_reducible assumption) | (with_reducible refine below_alloc ?_ _) | (with_reducible refine below_drew ?_) | (with_reducible refine below_drewN ?_ _) | (with_reducible refine below_step ?_ (by with_reducible assumption))))⟩)
    · have hy := HX.out hz
      go_enter Try.func5, Try.ntmps5
      go_wp2_with (first | (go_at_call 8; refine (lit_Make _ _ _).mono ?_; rintro e w' ⟨rfl, rfl⟩) | (go_at_call 15; refine (lit_Index _ _).mono ?_; rintro e w' ⟨rfl, rfl⟩) | (go_at_call 17; refine (lit_From _ _).mono ?_; rintro e w' ⟨rfl, rfl⟩) | (go_at_call 12; refine (lit_Var _ _).mono ?_; rintro e w' ⟨rfl, rfl⟩) | (go_at_call 13; refine (lit_Neg _ _).mono ?_; rintro e w' ⟨rfl, rfl⟩) | (go_at_call 10; refine (lit_Check _ _ _).mono ?_; rintro e w' ⟨rfl, rfl⟩) | (go_at_call 19; refine (law01_awake _).mono ?_; rintro e w' ⟨rfl, hbAw⟩))
      refine (lit_Of _ _ _ _ _ _ (IntRow.made _ _ [l] (by simp [maxLen]))).mono ?_
      rintro e w1 ⟨rfl, hb1⟩
      go_wp2_with (first | (go_at_call 8; refine (lit_Make _ _ _).mono ?_; rintro e w' ⟨rfl, rfl⟩) | (go_at_call 15; refine (lit_Index _ _).mono ?_; rintro e w' ⟨rfl, rfl⟩) | (go_at_call 17; refine (lit_From _ _).mono ?_; rintro e w' ⟨rfl, rfl⟩) | (go_at_call 12; refine (lit_Var _ _).mono ?_; rintro e w' ⟨rfl, rfl⟩) | (go_at_call 13; refine (lit_Neg _ _).mono ?_; rintro e w' ⟨rfl, rfl⟩) | (go_at_call 10; refine (lit_Check _ _ _).mono ?_; rintro e w' ⟨rfl, rfl⟩) | (go_at_call 19; refine (law01_awake _).mono ?_; rintro e w' ⟨rfl, hbAw⟩))
      all_goals (go_returns; exact ⟨rfl, by (repeat (first | (with_reducible exact Below.refl _ _) | (with_reducible assumption) | (with_reducible refine below_alloc ?_ _) | (with_reducible refine below_drew ?_) | (with_reducible refine below_drewN ?_ _) | (with_reducible refine below_step ?_ (by with_reducible assumption))))⟩)

theorem lneg_in {l : Int} (h : lvar l ≠ 0) : lneg l = -l := by unfold lneg; rw [if_neg h]
theorem lvar_neg {l : Int} (h : lvar l ≠ 0) : lvar (-l) = lvar l := by
  have := lvar_range h
  unfold lvar; split <;> (try split) <;> (try split) <;> (try split) <;> omega
theorem lindex_in {l : Int} (h : lvar l ≠ 0) : lindex l = if l < 0 then 2 * lvar l - 1 else 2 * lvar l - 2 := by unfold lindex; rw [if_neg h]
theorem lvar_abs {l : Int} (h : lvar l ≠ 0) : lvar l = if l < 0 then -l else l := by
  have := lvar_range h
  unfold lvar; split <;> (try split) <;> (try split) <;> omega

set_option maxHeartbeats 1000000 in
theorem litNeg_walk (w : World) (a : Int) (wa : (Lit.int .i64 a).wf = true) (b : Int) (wb : (Lit.int .i64 b).wf = true) :
    Calls Try.prog 6 #[.int .i64 a, .int .i64 b] w fun e w' => e = .returned (.bool true) ∧ Below w.heap.size w w' := by
  clear wa wb
  by_cases ha : lvar a = 0
  · have h0 : (lcheck a 100000 != 0) = true := by have := lcheck_max a; simp; omega
    clear ha
    go_enter Try.func6, Try.ntmps6
    go_wp2_with (first | (go_at_call 8; refine (lit_Make _ _ _).mono ?_; rintro e w' ⟨rfl, rfl⟩) | (go_at_call 15; refine (lit_Index _ _).mono ?_; rintro e w' ⟨rfl, rfl⟩) | (go_at_call 17; refine (lit_From _ _).mono ?_; rintro e w' ⟨rfl, rfl⟩) | (go_at_call 12; refine (lit_Var _ _).mono ?_; rintro e w' ⟨rfl, rfl⟩) | (go_at_call 13; refine (lit_Neg _ _).mono ?_; rintro e w' ⟨rfl, rfl⟩) | (go_at_call 10; refine (lit_Check _ _ _).mono ?_; rintro e w' ⟨rfl, rfl⟩) | (go_at_call 19; refine (law01_awake _).mono ?_; rintro e w' ⟨rfl, hbAw⟩))
    all_goals (go_returns; exact ⟨rfl, by (repeat (first | (with_reducible exact Below.refl _ _) | (with_reducible assumption) | (with_reducible refine below_alloc ?_ _) | (with_reducible refine below_drew ?_) | (with_reducible refine below_drewN ?_ _) | (with_reducible refine below_step ?_ (by with_reducible assumption))))⟩)
  · have h0 : (lcheck a 100000 != 0) = false := by have := lcheck_max a; simp; omega
    by_cases hb : lvar b = 0
    · have h0 : (lcheck b 100000 != 0) = true := by have := lcheck_max b; simp; omega
      clear ha hb
      go_enter Try.func6, Try.ntmps6
      go_wp2_with (first | (go_at_call 8; refine (lit_Make _ _ _).mono ?_; rintro e w' ⟨rfl, rfl⟩) | (go_at_call 15; refine (lit_Index _ _).mono ?_; rintro e w' ⟨rfl, rfl⟩) | (go_at_call 17; refine (lit_From _ _).mono ?_; rintro e w' ⟨rfl, rfl⟩) | (go_at_call 12; refine (lit_Var _ _).mono ?_; rintro e w' ⟨rfl, rfl⟩) | (go_at_call 13; refine (lit_Neg _ _).mono ?_; rintro e w' ⟨rfl, rfl⟩) | (go_at_call 10; refine (lit_Check _ _ _).mono ?_; rintro e w' ⟨rfl, rfl⟩) | (go_at_call 19; refine (law01_awake _).mono ?_; rintro e w' ⟨rfl, hbAw⟩))
      all_goals (go_returns; exact ⟨rfl, by (repeat (first | (with_reducible exact Below.refl _ _) | (with_reducible assumption) | (with_reducible refine below_alloc ?_ _) | (with_reducible refine below_drew ?_) | (with_reducible refine below_drewN ?_ _) | (with_reducible refine below_step ?_ (by with_reducible assumption))))⟩)
    · have h1 : (lcheck b 100000 != 0) = false := by have := lcheck_max b; simp; omega
      have ra := lvar_range ha
      have rb := lvar_range hb
      have va := lvar_abs ha
      have vb := lvar_abs hb
      have vn := lvar_neg ha
      have hn : lvar (-a) ≠ 0 := by rw [vn]; exact ha
      have h2 : (lneg (lneg a) != a) = false := by rw [lneg_in ha, lneg_in hn]; simp
      have h3 : (lneg a == a) = false := by rw [lneg_in ha]; simp; omega
      have h4 : (lvar (lneg a) != lvar a) = false := by rw [lneg_in ha, vn]; simp
      have i1 := lindex_in ha
      have i2 := lindex_in hn
      have i3 := lindex_in hb
      rw [vn] at i2
      have h5 : (lindex a / 2 != lindex (lneg a) / 2) = false := by rw [lneg_in ha, i1, i2]; simp; split <;> split <;> omega
      have h6 : (lindex a == lindex (lneg a)) = false := by rw [lneg_in ha, i1, i2]; simp; split <;> split <;> omega
      have b1 := lindex_bd a
      have b2 := lindex_bd (lneg a)
      have b3 : 0 ≤ lindex a := by rw [i1]; have := lvar_bd a; split <;> omega
      have b4 : 0 ≤ lindex (lneg a) := by rw [lneg_in ha, i2]; have := lvar_bd a; split <;> omega
      have hl : lneg a = -a := lneg_in ha
      have hcase : b = a ∨ (b ≠ a ∧ (b == a) = false ∧ (a == b) = false ∧ (b == lneg a) = true ∧ (lvar a == lvar b) = true ∧ (lindex a == lindex b) = false) ∨ (b ≠ a ∧ (b == a) = false ∧ (a == b) = false ∧ (b == lneg a) = false ∧ (lvar a == lvar b) = false ∧ (lindex a == lindex b) = false) := by
        by_cases c1 : b = a
        · exact .inl c1
        · right
          by_cases c2 : b = -a
          · left
            refine ⟨c1, by simpa using c1, by simpa using fun h => c1 h.symm, by rw [hl]; simpa using c2, ?_, ?_⟩
            · rw [va, vb]; simp; split <;> split <;> omega
            · rw [i1, i3, va, vb]; simp; split <;> split <;> (try split) <;> (try split) <;> omega
          · right
            refine ⟨c1, by simpa using c1, by simpa using fun h => c1 h.symm, by rw [hl]; simpa using c2, ?_, ?_⟩
            · rw [va, vb]; simp; split <;> split <;> omega
            · rw [i1, i3, va, vb]; simp; split <;> split <;> (try split) <;> (try split) <;> omega
      clear ha hb va vb vn hn i1 i2 i3 ra rb hl
      rcases hcase with rfl | ⟨c0, c1, c2, c3, c4, c5⟩ | ⟨c0, c1, c2, c3, c4, c5⟩
      · go_enter Try.func6, Try.ntmps6
        go_wp2_with (first | (go_at_call 8; refine (lit_Make _ _ _).mono ?_; rintro e w' ⟨rfl, rfl⟩) | (go_at_call 15; refine (lit_Index _ _).mono ?_; rintro e w' ⟨rfl, rfl⟩) | (go_at_call 17; refine (lit_From _ _).mono ?_; rintro e w' ⟨rfl, rfl⟩) | (go_at_call 12; refine (lit_Var _ _).mono ?_; rintro e w' ⟨rfl, rfl⟩) | (go_at_call 13; refine (lit_Neg _ _).mono ?_; rintro e w' ⟨rfl, rfl⟩) | (go_at_call 10; refine (lit_Check _ _ _).mono ?_; rintro e w' ⟨rfl, rfl⟩) | (go_at_call 19; refine (law01_awake _).mono ?_; rintro e w' ⟨rfl, hbAw⟩))
        all_goals (go_returns; exact ⟨rfl, by (repeat (first | (with_reducible exact Below.refl _ _) | (with_reducible assumption) | (with_reducible refine below_alloc ?_ _) | (with_reducible refine below_drew ?_) | (with_reducible refine below_drewN ?_ _) | (with_reducible refine below_step ?_ (by with_reducible assumption))))⟩)
      · go_enter Try.func6, Try.ntmps6
        go_wp2_with (first | (go_at_call 8; refine (lit_Make _ _ _).mono ?_; rintro e w' ⟨rfl, rfl⟩) | (go_at_call 15; refine (lit_Index _ _).mono ?_; rintro e w' ⟨rfl, rfl⟩) | (go_at_call 17; refine (lit_From _ _).mono ?_; rintro e w' ⟨rfl, rfl⟩) | (go_at_call 12; refine (lit_Var _ _).mono ?_; rintro e w' ⟨rfl, rfl⟩) | (go_at_call 13; refine (lit_Neg _ _).mono ?_; rintro e w' ⟨rfl, rfl⟩) | (go_at_call 10; refine (lit_Check _ _ _).mono ?_; rintro e w' ⟨rfl, rfl⟩) | (go_at_call 19; refine (law01_awake _).mono ?_; rintro e w' ⟨rfl, hbAw⟩))
        all_goals (go_returns; exact ⟨rfl, by (repeat (first | (with_reducible exact Below.refl _ _) | (with_reducible assumption) | (with_reducible refine below_alloc ?_ _) | (with_reducible refine below_drew ?_) | (with_reducible refine below_drewN ?_ _) | (with_reducible refine below_step ?_ (by with_reducible assumption))))⟩)
      · go_enter Try.func6, Try.ntmps6
        go_wp2_with (first | (go_at_call 8; refine (lit_Make _ _ _).mono ?_; rintro e w' ⟨rfl, rfl⟩) | (go_at_call 15; refine (lit_Index _ _).mono ?_; rintro e w' ⟨rfl, rfl⟩) | (go_at_call 17; refine (lit_From _ _).mono ?_; rintro e w' ⟨rfl, rfl⟩) | (go_at_call 12; refine (lit_Var _ _).mono ?_; rintro e w' ⟨rfl, rfl⟩) | (go_at_call 13; refine (lit_Neg _ _).mono ?_; rintro e w' ⟨rfl, rfl⟩) | (go_at_call 10; refine (lit_Check _ _ _).mono ?_; rintro e w' ⟨rfl, rfl⟩) | (go_at_call 19; refine (law01_awake _).mono ?_; rintro e w' ⟨rfl, hbAw⟩))
        all_goals (go_returns; exact ⟨rfl, by (repeat (first | (with_reducible exact Below.refl _ _) | (with_reducible assumption) | (with_reducible refine below_alloc ?_ _) | (with_reducible refine below_drew ?_) | (with_reducible refine below_drewN ?_ _) | (with_reducible refine below_step ?_ (by with_reducible assumption))))⟩)

set_option maxRecDepth 100000 in
theorem litTells_lifted (os : Os) (started : os.Started) (H : Type) (enc : TypeId × Value → H) :
    ReturnsInHanded {} Try.checked os 3 .any (Rows.litTellsSpec.pre6 enc Try.prog Try.f3 Rows.litTellsRow.domain false) (Rows.litTellsSpec.post enc Try.prog Try.f3 false true false false) := by
  refine returnsInHanded_of_change (C := Try.checked) own started (by kernel_rfl) Try.func3
    (ChangeSpec.witness6 (enc := enc) (C := Try.checked) false ⟨#[], #[.int .i64 0, .int .i64 0, .bool false], []⟩ 8 (by kernel_rfl) (by kernel_rfl) (by kernel_rfl) (by kernel_rfl)) ?_
  intro W base args ds gs before hval0 hW hcnd _
  have hval : ∀ (j : Nat) t v, Try.f3.params[j]? = some t → args[j]? = some v → Value.okWide Try.prog W .any base t v := hval0
  have hW' := hW
  obtain ⟨p, q, hA0, hV, rfl, hfz, hnd⟩ := hW
  have hA : DataW.TrodAll enc Try.prog W 0 (fun _ => true) true Try.f3.params.toList args.toList ds p := hA0
  rw [Try.params3] at hA hval
  obtain ⟨v0, vs0, d0, ds0, p0, q0, hargs, rfl, rfl, h0, r0⟩ := trodAll_cons hA
  obtain ⟨v1, vs1, d1, ds1, p1, q1, rfl, rfl, rfl, h1, r1⟩ := trodAll_cons r0
  obtain ⟨v2, vs2, d2, ds2, p2, q2, rfl, rfl, rfl, h2, r2⟩ := trodAll_cons r1
  obtain ⟨rfl, rfl, rfl⟩ := trodAll_nil r2
  obtain rfl : args = #[v0, v1, v2] := by cases args; simp_all
  obtain ⟨rfl, rfl⟩ := trodVars_none hV
  have k0 := h0
  have lt0 : ∀ x ∈ p0, x.block < W.heap.size := by obtain ⟨m, hm⟩ := k0; exact DataW.trod_lt m _ _ _ hm
  obtain ⟨a0, rfl, rfl, rfl, w0⟩ := open_int Try.underlying3 (hval 0 3 v0 rfl rfl) h0
  have k1 := h1
  have lt1 : ∀ x ∈ p1, x.block < W.heap.size := by obtain ⟨m, hm⟩ := k1; exact DataW.trod_lt m _ _ _ hm
  obtain ⟨a1, rfl, rfl, rfl, w1⟩ := open_int Try.underlying3 (hval 1 3 v1 rfl rfl) h1
  have k2 := h2
  have lt2 : ∀ x ∈ p2, x.block < W.heap.size := by obtain ⟨m, hm⟩ := k2; exact DataW.trod_lt m _ _ _ hm
  obtain ⟨a2, rfl, rfl, rfl⟩ := open_bool Try.underlying4 (hval 2 4 v2 rfl rfl) h2
  clear hA0 hval0
  refine (litTells_walk W a0 w0 a1 w1 a2).mono fun e W' ⟨he, bel⟩ => ?_
  subst he
  exact ⟨_, rfl, _, _, _, [], _, [], hW', trodAll_mk1 (shut_bool Try.underlying4 _), (trodAll_cons_mk (Below.trod laidOut (by kernel_rfl) (of_decide_eq_true (by kernel_rfl)) k0 bel lt0) (trodAll_cons_mk (Below.trod laidOut (by kernel_rfl) (of_decide_eq_true (by kernel_rfl)) k1 bel lt1) (trodAll_cons_mk (Below.trod laidOut (by kernel_rfl) (of_decide_eq_true (by kernel_rfl)) k2 bel lt2) trodAll_mk0))), rfl, bel.frame _, fun h => by cases h⟩

theorem litTells_proved : Rows.LitTellsSaid :=
  OpenClaim.holds_of_wide 3 Try.f3 rfl rfl rfl rfl rfl rfl rfl ⟨rfl, rfl, rfl, rfl, rfl⟩ rfl rfl rfl rfl rfl (by kernel_rfl) Try.func3 (by kernel_rfl)
    (of_decide_eq_true (by kernel_rfl)) (by unfold Func.isWrapper; first | (rw [if_pos (by decide +kernel)]; kernel_rfl) | (rw [if_neg (by decide +kernel)]; exact ⟨rfl, rfl⟩))
    (fun os started H enc _ => litTells_lifted os started H enc)


set_option maxRecDepth 100000 in
theorem litLists_lifted (os : Os) (started : os.Started) (H : Type) (enc : TypeId × Value → H) :
    ReturnsInHanded {} Try.checked os 4 .any (Rows.litListsSpec.pre6 enc Try.prog Try.f4 Rows.litListsRow.domain false) (Rows.litListsSpec.post enc Try.prog Try.f4 false true false false) := by
  refine returnsInHanded_of_change (C := Try.checked) own started (by kernel_rfl) Try.func4
    (ChangeSpec.witness6 (enc := enc) (C := Try.checked) false ⟨#[], #[.slice none 0 0, .int .i64 0], []⟩ 8 (by kernel_rfl) (by kernel_rfl) (by kernel_rfl) (by kernel_rfl)) ?_
  intro W base args ds gs before hval0 hW hcnd _
  have hval : ∀ (j : Nat) t v, Try.f4.params[j]? = some t → args[j]? = some v → Value.okWide Try.prog W .any base t v := hval0
  have hW' := hW
  obtain ⟨p, q, hA0, hV, rfl, hfz, hnd⟩ := hW
  have hA : DataW.TrodAll enc Try.prog W 0 (fun _ => true) true Try.f4.params.toList args.toList ds p := hA0
  rw [Try.params4] at hA hval
  obtain ⟨v0, vs0, d0, ds0, p0, q0, hargs, rfl, rfl, h0, r0⟩ := trodAll_cons hA
  obtain ⟨v1, vs1, d1, ds1, p1, q1, rfl, rfl, rfl, h1, r1⟩ := trodAll_cons r0
  obtain ⟨rfl, rfl, rfl⟩ := trodAll_nil r1
  obtain rfl : args = #[v0, v1] := by cases args; simp_all
  obtain ⟨rfl, rfl⟩ := trodVars_none hV
  have k0 := h0
  have lt0 : ∀ x ∈ p0, x.block < W.heap.size := by obtain ⟨m, hm⟩ := k0; exact DataW.trod_lt m _ _ _ hm
  obtain ⟨a0, len0, cap0, rfl⟩ := okWide_slice Try.underlying33 (hval 0 33 v0 rfl rfl)
  obtain ⟨z0, w0, wf0⟩ := open_row Try.underlying33 Try.underlying3 (by kernel_rfl) h0
  have k1 := h1
  have lt1 : ∀ x ∈ p1, x.block < W.heap.size := by obtain ⟨m, hm⟩ := k1; exact DataW.trod_lt m _ _ _ hm
  obtain ⟨a1, rfl, rfl, rfl, w1⟩ := open_int Try.underlying3 (hval 1 3 v1 rfl rfl) h1
  clear hA0 hval0
  refine (litLists_walk W a0 len0 cap0 z0 w0 wf0 a1 w1).mono fun e W' ⟨he, bel⟩ => ?_
  subst he
  exact ⟨_, rfl, _, _, _, [], _, [], hW', trodAll_mk1 (shut_bool Try.underlying4 _), (trodAll_cons_mk (Below.trod laidOut (by kernel_rfl) (of_decide_eq_true (by kernel_rfl)) k0 bel lt0) (trodAll_cons_mk (Below.trod laidOut (by kernel_rfl) (of_decide_eq_true (by kernel_rfl)) k1 bel lt1) trodAll_mk0)), rfl, bel.frame _, fun h => by cases h⟩

theorem litLists_proved : Rows.LitListsSaid :=
  OpenClaim.holds_of_wide 4 Try.f4 rfl rfl rfl rfl rfl rfl rfl ⟨rfl, rfl, rfl, rfl, rfl⟩ rfl rfl rfl rfl rfl (by kernel_rfl) Try.func4 (by kernel_rfl)
    (of_decide_eq_true (by kernel_rfl)) (by unfold Func.isWrapper; first | (rw [if_pos (by decide +kernel)]; kernel_rfl) | (rw [if_neg (by decide +kernel)]; exact ⟨rfl, rfl⟩))
    (fun os started H enc _ => litLists_lifted os started H enc)


set_option maxRecDepth 100000 in
theorem litBack_lifted (os : Os) (started : os.Started) (H : Type) (enc : TypeId × Value → H) :
    ReturnsInHanded {} Try.checked os 5 .any (Rows.litBackSpec.pre6 enc Try.prog Try.f5 Rows.litBackRow.domain false) (Rows.litBackSpec.post enc Try.prog Try.f5 false true false false) := by
  refine returnsInHanded_of_change (C := Try.checked) own started (by kernel_rfl) Try.func5
    (ChangeSpec.witness6 (enc := enc) (C := Try.checked) false ⟨#[], #[.int .i64 0, .int .i64 0], []⟩ 8 (by kernel_rfl) (by kernel_rfl) (by kernel_rfl) (by kernel_rfl)) ?_
  intro W base args ds gs before hval0 hW hcnd _
  have hval : ∀ (j : Nat) t v, Try.f5.params[j]? = some t → args[j]? = some v → Value.okWide Try.prog W .any base t v := hval0
  have hW' := hW
  obtain ⟨p, q, hA0, hV, rfl, hfz, hnd⟩ := hW
  have hA : DataW.TrodAll enc Try.prog W 0 (fun _ => true) true Try.f5.params.toList args.toList ds p := hA0
  rw [Try.params5] at hA hval
  obtain ⟨v0, vs0, d0, ds0, p0, q0, hargs, rfl, rfl, h0, r0⟩ := trodAll_cons hA
  obtain ⟨v1, vs1, d1, ds1, p1, q1, rfl, rfl, rfl, h1, r1⟩ := trodAll_cons r0
  obtain ⟨rfl, rfl, rfl⟩ := trodAll_nil r1
  obtain rfl : args = #[v0, v1] := by cases args; simp_all
  obtain ⟨rfl, rfl⟩ := trodVars_none hV
  have k0 := h0
  have lt0 : ∀ x ∈ p0, x.block < W.heap.size := by obtain ⟨m, hm⟩ := k0; exact DataW.trod_lt m _ _ _ hm
  obtain ⟨a0, rfl, rfl, rfl, w0⟩ := open_int Try.underlying3 (hval 0 3 v0 rfl rfl) h0
  have k1 := h1
  have lt1 : ∀ x ∈ p1, x.block < W.heap.size := by obtain ⟨m, hm⟩ := k1; exact DataW.trod_lt m _ _ _ hm
  obtain ⟨a1, rfl, rfl, rfl, w1⟩ := open_int Try.underlying3 (hval 1 3 v1 rfl rfl) h1
  clear hA0 hval0
  refine (litBack_walk W a0 w0 a1 w1).mono fun e W' ⟨he, bel⟩ => ?_
  subst he
  exact ⟨_, rfl, _, _, _, [], _, [], hW', trodAll_mk1 (shut_bool Try.underlying4 _), (trodAll_cons_mk (Below.trod laidOut (by kernel_rfl) (of_decide_eq_true (by kernel_rfl)) k0 bel lt0) (trodAll_cons_mk (Below.trod laidOut (by kernel_rfl) (of_decide_eq_true (by kernel_rfl)) k1 bel lt1) trodAll_mk0)), rfl, bel.frame _, fun h => by cases h⟩

theorem litBack_proved : Rows.LitBackSaid :=
  OpenClaim.holds_of_wide 5 Try.f5 rfl rfl rfl rfl rfl rfl rfl ⟨rfl, rfl, rfl, rfl, rfl⟩ rfl rfl rfl rfl rfl (by kernel_rfl) Try.func5 (by kernel_rfl)
    (of_decide_eq_true (by kernel_rfl)) (by unfold Func.isWrapper; first | (rw [if_pos (by decide +kernel)]; kernel_rfl) | (rw [if_neg (by decide +kernel)]; exact ⟨rfl, rfl⟩))
    (fun os started H enc _ => litBack_lifted os started H enc)


set_option maxRecDepth 100000 in
theorem litNeg_lifted (os : Os) (started : os.Started) (H : Type) (enc : TypeId × Value → H) :
    ReturnsInHanded {} Try.checked os 6 .any (Rows.litNegSpec.pre6 enc Try.prog Try.f6 Rows.litNegRow.domain false) (Rows.litNegSpec.post enc Try.prog Try.f6 false true false false) := by
  refine returnsInHanded_of_change (C := Try.checked) own started (by kernel_rfl) Try.func6
    (ChangeSpec.witness6 (enc := enc) (C := Try.checked) false ⟨#[], #[.int .i64 0, .int .i64 0], []⟩ 8 (by kernel_rfl) (by kernel_rfl) (by kernel_rfl) (by kernel_rfl)) ?_
  intro W base args ds gs before hval0 hW hcnd _
  have hval : ∀ (j : Nat) t v, Try.f6.params[j]? = some t → args[j]? = some v → Value.okWide Try.prog W .any base t v := hval0
  have hW' := hW
  obtain ⟨p, q, hA0, hV, rfl, hfz, hnd⟩ := hW
  have hA : DataW.TrodAll enc Try.prog W 0 (fun _ => true) true Try.f6.params.toList args.toList ds p := hA0
  rw [Try.params6] at hA hval
  obtain ⟨v0, vs0, d0, ds0, p0, q0, hargs, rfl, rfl, h0, r0⟩ := trodAll_cons hA
  obtain ⟨v1, vs1, d1, ds1, p1, q1, rfl, rfl, rfl, h1, r1⟩ := trodAll_cons r0
  obtain ⟨rfl, rfl, rfl⟩ := trodAll_nil r1
  obtain rfl : args = #[v0, v1] := by cases args; simp_all
  obtain ⟨rfl, rfl⟩ := trodVars_none hV
  have k0 := h0
  have lt0 : ∀ x ∈ p0, x.block < W.heap.size := by obtain ⟨m, hm⟩ := k0; exact DataW.trod_lt m _ _ _ hm
  obtain ⟨a0, rfl, rfl, rfl, w0⟩ := open_int Try.underlying3 (hval 0 3 v0 rfl rfl) h0
  have k1 := h1
  have lt1 : ∀ x ∈ p1, x.block < W.heap.size := by obtain ⟨m, hm⟩ := k1; exact DataW.trod_lt m _ _ _ hm
  obtain ⟨a1, rfl, rfl, rfl, w1⟩ := open_int Try.underlying3 (hval 1 3 v1 rfl rfl) h1
  clear hA0 hval0
  refine (litNeg_walk W a0 w0 a1 w1).mono fun e W' ⟨he, bel⟩ => ?_
  subst he
  exact ⟨_, rfl, _, _, _, [], _, [], hW', trodAll_mk1 (shut_bool Try.underlying4 _), (trodAll_cons_mk (Below.trod laidOut (by kernel_rfl) (of_decide_eq_true (by kernel_rfl)) k0 bel lt0) (trodAll_cons_mk (Below.trod laidOut (by kernel_rfl) (of_decide_eq_true (by kernel_rfl)) k1 bel lt1) trodAll_mk0)), rfl, bel.frame _, fun h => by cases h⟩

theorem litNeg_proved : Rows.LitNegSaid :=
  OpenClaim.holds_of_wide 6 Try.f6 rfl rfl rfl rfl rfl rfl rfl ⟨rfl, rfl, rfl, rfl, rfl⟩ rfl rfl rfl rfl rfl (by kernel_rfl) Try.func6 (by kernel_rfl)
    (of_decide_eq_true (by kernel_rfl)) (by unfold Func.isWrapper; first | (rw [if_pos (by decide +kernel)]; kernel_rfl) | (rw [if_neg (by decide +kernel)]; exact ⟨rfl, rfl⟩))
    (fun os started H enc _ => litNeg_lifted os started H enc)


end Go.Proofs.Ytinfdlkolkndlaa
