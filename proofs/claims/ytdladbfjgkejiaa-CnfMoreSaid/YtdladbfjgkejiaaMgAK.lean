import Derived.Test.YtdladbfjgkejiaaRows
import Derived.WalkKit
import Derived.WalkSpells
import Derived.WalkLawsBesides
import Derived.BigGuardPart
import Derived.Handy
import Derived.Lib.Hide
import Derived.Test.YtdladbfjgkejiaaMgAI
import Derived.Test.YtdladbfjgkejiaaMgAA
namespace Go.Proofs.Ytdladbfjgkejiaa
open Go.RowKit
set_option linter.unusedVariables false

theorem ref_Split (l : Int) (w : World) : Calls Try.prog 42 #[.int .i64 l] w fun e w' => e = .returned (.tuple #[.int .i64 (lvar l), .bool (lside l)]) ∧ w' = w := by
  go_enter Try.func42, Try.ntmps42
  go_wp2
  all_goals (go_returns; refine ⟨ret_intb ?_ ?_, rfl⟩ <;> (try unfold lside) <;> unfold lvar <;> split <;> (try split) <;> (try omega) <;> (simp; try omega))
end Go.Proofs.Ytdladbfjgkejiaa
namespace Go.Proofs.Ytdladbfjgkejiaa
open Go.RowKit
set_option linter.unusedVariables false

theorem lit_variable (l : Int) (w : World) : Calls Try.prog 40 #[.int .i64 l] w fun e w' => e = .returned (.int .i64 (lvar l)) ∧ w' = w := by
  go_enter Try.func40, Try.ntmps40
  go_wp2
  all_goals (go_returns; refine ⟨ret_int ?_, rfl⟩; unfold lvar; split <;> (try split) <;> omega)

theorem lit_Var (l : Int) (w : World) : Calls Try.prog 24 #[.int .i64 l] w fun e w' => e = .returned (.int .i64 (lvar l)) ∧ w' = w := by
  go_enter Try.func24, Try.ntmps24
  go_wp2_with (go_at_call 40; refine (lit_variable _ _).mono ?_; rintro e w' ⟨rfl, rfl⟩)
  go_ret
  exact ⟨rfl, rfl⟩

theorem lit_Check (l vars : Int) (w : World) : Calls Try.prog 50 #[.int .i64 l, .int .i64 vars] w fun e w' => e = .returned (.int .i64 (lcheck l vars)) ∧ w' = w := by
  have hb := lvar_bd l
  go_enter Try.func50, Try.ntmps50
  go_wp2_with (go_at_call 24; refine (lit_Var _ _).mono ?_; rintro e w' ⟨rfl, rfl⟩)
  all_goals (go_returns; refine ⟨ret_int ?_, rfl⟩; unfold lcheck; split <;> (try split) <;> (try omega) <;> (simp_all; try omega))

theorem lit_Make (v : Int) (t : Bool) (w : World) : Calls Try.prog 33 #[.int .i64 v, .bool t] w fun e w' => e = .returned (.tuple #[.int .i64 (lmake v t), .int .i64 (lmakeE v t)]) ∧ w' = w := by
  cases t
  all_goals
    go_enter Try.func33, Try.ntmps33
    go_wp2
    all_goals (go_returns; refine ⟨ret_int2 ?_ ?_, rfl⟩ <;> (try unfold lmakeE) <;> unfold lmake <;> split <;> (try split) <;> first | rfl | omega | (simp_all; done) | (simp_all; omega))

theorem lit_Index (l : Int) (w : World) : Calls Try.prog 57 #[.int .i64 l] w fun e w' => e = .returned (.int .i64 (lindex l)) ∧ w' = w := by
  have hb := lvar_bd l
  by_cases h : lvar l = 0
  · have h' : (lvar l == 0) = true := by simpa using h
    have h'' : (lvar l != 0) = false := by simpa using h
    have e : lindex l = -1 := by unfold lindex; rw [if_pos h]
    rw [e]; clear e h
    go_enter Try.func57, Try.ntmps57
    go_wp2_with (go_at_call 24; refine (lit_Var _ _).mono ?_; rintro e w' ⟨rfl, rfl⟩)
    all_goals (go_returns; exact ⟨rfl, rfl⟩)
  · have h' : (lvar l == 0) = false := by simpa using h
    have h'' : (lvar l != 0) = true := by simpa using h
    have e : lindex l = if l < 0 then 2 * lvar l - 1 else 2 * lvar l - 2 := by unfold lindex; rw [if_neg h]
    rw [e]; clear e h
    go_enter Try.func57, Try.ntmps57
    go_wp2_with (go_at_call 24; refine (lit_Var _ _).mono ?_; rintro e w' ⟨rfl, rfl⟩)
    all_goals (go_returns; refine ⟨ret_int ?_, rfl⟩; first | omega | (split <;> omega))

/-! ### The reference -/

theorem ref_Index (l : Int) (w : World) : Calls Try.prog 48 #[.int .i64 l] w fun e w' => e = .returned (.int .i64 (lindex l)) ∧ w' = w := by
  have hb := lvar_bd l
  by_cases h : lvar l = 0
  · have h' : (lvar l == 0) = true := by simpa using h
    have hs : lside l = false := by unfold lside; simp [h]
    have e : lindex l = -1 := by unfold lindex; rw [if_pos h]
    rw [e]; clear e h
    go_enter Try.func48, Try.ntmps48
    go_wp2_with (go_at_call 42; refine (ref_Split _ _).mono ?_; rintro e w' ⟨rfl, rfl⟩)
    all_goals (go_returns; exact ⟨rfl, rfl⟩)
  · have h' : (lvar l == 0) = false := by simpa using h
    by_cases hp : l < 0
    · have hs : lside l = false := by unfold lside; simp; omega
      have e : lindex l = 2 * lvar l - 1 := by unfold lindex; rw [if_neg h, if_pos hp]
      rw [e]; clear e h
      go_enter Try.func48, Try.ntmps48
      go_wp2_with (go_at_call 42; refine (ref_Split _ _).mono ?_; rintro e w' ⟨rfl, rfl⟩)
      all_goals (go_returns; exact ⟨rfl, rfl⟩)
    · have hs : lside l = true := by have := lvar_range h; unfold lside; simp; omega
      have e : lindex l = 2 * lvar l - 2 := by unfold lindex; rw [if_neg h, if_neg hp]
      rw [e]; clear e h
      go_enter Try.func48, Try.ntmps48
      go_wp2_with (go_at_call 42; refine (ref_Split _ _).mono ?_; rintro e w' ⟨rfl, rfl⟩)
      all_goals (go_returns; exact ⟨rfl, rfl⟩)

/-! ### Lists of numbers -/

theorem lit_Most (a : Option Addr) (len cap : Nat) (xs : List Int) (w : World) (hr : IntRow w a len xs) : Calls Try.prog 35 #[.slice a len cap] w fun e w' => e = .returned (.int .i64 (lmost xs)) ∧ w' = w := by
  obtain ⟨hl, hm, hc⟩ := hr
  unfold maxLen at hm
  have HC := Lib.hid hc; clear hc
  have HL := Lib.hid hl; clear hl
  go_enter Try.func35, Try.ntmps35
  go_wp2
  go_loop [3, 9] (fun m i => ∃ k : Nat, k ≤ len ∧ i = .int .i64 k ∧ m = .int .i64 (lmost (xs.take k))) (fun _ i => len - (intOf i).toNat)
  case atStart => exact ⟨0, Nat.zero_le _, rfl, rfl⟩
  case round =>
    obtain ⟨k, hk, rfl, rfl⟩ := hrel
    by_cases hlt : k < len
    · obtain ⟨b, off, rfl, hcell⟩ := HC.out (by omega)
      have hc := hcell k hlt
      have HS := Lib.hid (lmost_snoc (xs.take k) (xs.getD k 0))
      have HT := Lib.hid (take_snoc xs k (by rw [HL.out]; exact hlt))
      clear hcell
      go_wp2_with (go_at_call 40; refine (lit_variable _ _).mono ?_; rintro e w' ⟨rfl, rfl⟩)
      all_goals
        go_round
        case rel => exact ⟨k + 1, by omega, by go_num, by rw [HT.out, HS.out]; go_num⟩
        case measure => simp [intOf]; omega
    · go_wp2
      go_ret
      exact ⟨ret_int (by rw [List.take_of_length_le (by rw [HL.out]; omega)]), rfl⟩

theorem sl_Index (a : Option Addr) (len cap : Nat) (xs : List Int) (v : Int) (w : World) (hr : IntRow w a len xs) : Calls Try.prog 62 #[.slice a len cap, .int .i64 v] w fun e w' => ∃ i : Int, e = .returned (.int .i64 i) ∧ (0 ≤ i ↔ lhas xs v = true) ∧ w' = w := by
  obtain ⟨hl, hm, hc⟩ := hr
  unfold maxLen at hm
  have HC := Lib.hid hc; clear hc
  have HL := Lib.hid hl; clear hl
  go_enter Try.func62, Try.ntmps62
  go_wp2
  go_loop [8] (fun i => ∃ k : Nat, k ≤ len ∧ i = .int .i64 k ∧ lhas (xs.take k) v = false) (fun i => len - (intOf i).toNat)
  case atStart => exact ⟨0, Nat.zero_le _, rfl, rfl⟩
  case round =>
    obtain ⟨k, hk, rfl, HN⟩ := hrel
    have HN' := Lib.hid HN; clear HN
    by_cases hlt : k < len
    · obtain ⟨b, off, rfl, hcell⟩ := HC.out (by omega)
      have hc := hcell k hlt
      have HS := Lib.hid (lhas_snoc (xs.take k) (xs.getD k 0) v)
      have HT := Lib.hid (take_snoc xs k (by rw [HL.out]; exact hlt))
      clear hcell
      go_wp2
      · go_ret
        refine ⟨_, rfl, ⟨fun _ => ?_, fun _ => by omega⟩, rfl⟩
        have h1 : xs.getD k 0 ∈ xs := by rw [List.getD_eq_getElem?_getD, List.getElem?_eq_getElem (by rw [HL.out]; exact hlt)]; simp
        unfold lhas; rw [List.contains_iff_mem]
        simp_all
      · go_round
        case rel => exact ⟨k + 1, by omega, by go_num, by rw [HT.out, HS.out, HN'.out]; simp_all⟩
        case measure => simp [intOf]; omega
    · go_wp2
      go_ret
      refine ⟨_, rfl, ⟨fun h => by omega, fun h => ?_⟩, rfl⟩
      have h2 := HN'.out
      rw [List.take_of_length_le (by rw [HL.out]; omega), h] at h2
      cases h2

theorem sl_Contains (a : Option Addr) (len cap : Nat) (xs : List Int) (v : Int) (w : World) (hr : IntRow w a len xs) : Calls Try.prog 61 #[.slice a len cap, .int .i64 v] w fun e w' => e = .returned (.bool (lhas xs v)) ∧ w' = w := by
  cases hb : lhas xs v
  all_goals
    have HB := Lib.hid hb
    clear hb
    go_enter Try.func61, Try.ntmps61
    go_wp2_with (go_at_call 62; refine (sl_Index _ _ _ _ _ _ hr).mono ?_; rintro e w' ⟨i, rfl, hi, rfl⟩; rw [HB.out] at hi; simp at hi)
    all_goals (go_returns; exact ⟨ret_bool (by first | (simp; done) | (simp; omega)), rfl⟩)

end Go.Proofs.Ytdladbfjgkejiaa
namespace Go.Proofs.Ytdladbfjgkejiaa
open Go.RowKit
set_option linter.unusedVariables false

/-- Does a literal hold, if the truths of the variables from 1 on are these? -/
def litT (m : List Bool) (l : Int) : Bool := decide (lvar l ≠ 0) && ((decide (lvar l ≤ m.length) && m.getD ((lvar l).toNat - 1) false) == lside l)
def holdsC (m : List Bool) (c : List Int) : Bool := c.any (litT m)

set_option maxHeartbeats 1000000 in
theorem ref_Holds (ca : Option Addr) (cl cc : Nat) (xs : List Int) (ma : Option Addr) (ml mc : Nat) (bs : List Bool) (w : World) (hc : IntRow w ca cl xs) (hm : BoolRow w ma ml bs) :
    Calls Try.prog 28 #[.slice ca cl cc, .slice ma ml mc] w fun e w' => e = .returned (.bool (holdsC bs xs)) ∧ w = w' := by
  have m1 := hc.2.1; have m2 := hm.2.1; unfold maxLen at m1 m2
  have HC := Lib.hid hc; have HM := Lib.hid hm
  have HCL := Lib.hid hc.1; have HML := Lib.hid hm.1
  clear hc hm
  go_enter Try.func28, Try.ntmps28
  go_wp2_with fail
  go_loop [5] (fun i => ∃ k : Nat, k ≤ cl ∧ i = .int .i64 k ∧ ∀ j, j < k → litT bs (xs.getD j 0) = false) (fun i => cl - (intOf i).toNat)
  case atStart => exact ⟨0, Nat.zero_le _, rfl, fun j hj => by omega⟩
  case round =>
    obtain ⟨k, hk, rfl, hall⟩ := hrel
    have HALL := Lib.hid hall; clear hall
    by_cases hlt : k < cl
    · obtain ⟨b, off, rfl, hcell⟩ := HC.out.2.2 (by omega)
      have hck := hcell k hlt
      clear hcell
      have hL : litT bs (xs.getD k 0) = (decide (lvar (xs.getD k 0) ≠ 0) && ((decide (lvar (xs.getD k 0) ≤ (ml : Int)) && bs.getD ((lvar (xs.getD k 0)).toNat - 1) false) == lside (xs.getD k 0))) := by unfold litT; rw [HML.out]
      have HXK : Hid (litT bs (xs.getD k 0) = true → holdsC bs xs = true) := Lib.hid (fun h => List.any_eq_true.2 ⟨_, by rw [List.getD_eq_getElem?_getD, List.getElem?_eq_getElem (by rw [HCL.out]; exact hlt)]; simp, h⟩)
      generalize hx : xs.getD k 0 = x at *
      have HX := Lib.hid hx; clear hx
      have hb := lvar_bd x
      cases hside : lside x
      all_goals
        rw [hside] at hL
        by_cases hv0 : lvar x = 0
        · have hLf : litT bs x = false := by rw [hL]; simp [hv0]
          have hv1 : (lvar x == 0) = true := by simpa using hv0
          have HLF := Lib.hid hLf; clear hLf hL hv0
          go_wp2_with (go_at_call 42; refine (ref_Split _ _).mono ?_; rintro e w' ⟨rfl, rfl⟩)
          go_round
          case rel => exact ⟨k + 1, by omega, by go_num, fun j hj => by rcases Nat.lt_or_ge j k with h | h; exact HALL.out j h; obtain rfl : j = k := (by omega); rw [HX.out]; exact HLF.out⟩
          case measure => simp [intOf]; omega
        · have hv1 : (lvar x == 0) = false := by simpa using hv0
          by_cases hle : lvar x ≤ (ml : Int)
          · obtain ⟨q, hq⟩ : ∃ q : Nat, lvar x = (q : Int) + 1 := ⟨(lvar x).toNat - 1, by omega⟩
            obtain ⟨mb, mo, rfl, hmc⟩ := HM.out.2.2 (by omega)
            have hmq := hmc q (by omega)
            rw [hq, show ((q : Int) + 1).toNat - 1 = q by omega] at hL
            have HQ := Lib.hid hq; clear hq hmc
            cases hbq : bs.getD q false
            all_goals
              rw [hbq] at hmq hL
              have hd0 : decide ((q : Int) + 1 ≠ 0) = true := by simp; omega
              have hd : decide ((q : Int) + 1 ≤ (ml : Int)) = true := by have := HQ.out; simp; omega
              rw [hd0, hd] at hL
              have HL := Lib.hid hL
              have hle2 : (q : Int) + 1 ≤ (ml : Int) := by have := HQ.out; omega
              have hq1 : ((q : Int) + 1 == 0) = false := by simp; omega
              clear hL hv0 hv1 hle hbq hd0 hb
              go_wp2_with (go_at_call 42; refine (ref_Split _ _).mono ?_; rintro e w' ⟨rfl, rfl⟩; rw [HQ.out])
              first
                | (go_ret; exact ⟨ret_bool (HXK.out (by rw [HL.out]; rfl)).symm, rfl⟩)
                | (go_round
                   case rel => exact ⟨k + 1, by omega, by go_num, fun j hj => by rcases Nat.lt_or_ge j k with h | h; exact HALL.out j h; obtain rfl : j = k := (by omega); rw [HX.out, HL.out]; rfl⟩
                   case measure => simp [intOf]; omega)
          · have hd : decide (lvar x ≤ (ml : Int)) = false := by simpa using hle
            have hd0 : decide (lvar x ≠ 0) = true := by simpa using hv0
            rw [hd, hd0] at hL
            have HL := Lib.hid hL; clear hL hv0
            go_wp2_with (go_at_call 42; refine (ref_Split _ _).mono ?_; rintro e w' ⟨rfl, rfl⟩)
            first
              | (go_ret; exact ⟨ret_bool (HXK.out (by rw [HL.out]; rfl)).symm, rfl⟩)
              | (go_round
                 case rel => exact ⟨k + 1, by omega, by go_num, fun j hj => by rcases Nat.lt_or_ge j k with h | h; exact HALL.out j h; obtain rfl : j = k := (by omega); rw [HX.out, HL.out]; rfl⟩
                 case measure => simp [intOf]; omega)
    · have hkl : k = cl := by omega
      have HKL := Lib.hid hkl; clear hkl
      go_wp2_with fail
      go_ret
      refine ⟨ret_bool ?_, rfl⟩
      symm
      rw [Bool.eq_false_iff]
      intro h
      obtain ⟨l, hl, ht⟩ := List.any_eq_true.1 h
      obtain ⟨j, hj, e⟩ := List.mem_iff_getElem.1 hl
      have := HALL.out j (by rw [HKL.out, ← HCL.out]; exact hj)
      rw [show xs.getD j 0 = l by simp [List.getD, hj, e], ht] at this
      cases this
end Go.Proofs.Ytdladbfjgkejiaa
