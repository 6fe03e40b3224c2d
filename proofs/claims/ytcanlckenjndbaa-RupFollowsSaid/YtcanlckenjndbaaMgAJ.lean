import Derived.Test.YtcanlckenjndbaaRows
import Derived.WalkKit
import Derived.WalkSpells
import Derived.WalkLawsBesides
import Derived.BigGuardPart
import Derived.Handy
import Derived.Lib.Hide
import Derived.Test.YtcanlckenjndbaaMgAI
import Derived.Test.YtcanlckenjndbaaMgAA
namespace Go.Proofs.Ytcanlckenjndbaa
open Go.RowKit
set_option linter.unusedVariables false
theorem ref_Split (l : Int) (w : World) : Calls Try.prog 69 #[.int .i64 l] w fun e w' => e = .returned (.tuple #[.int .i64 (lvar l), .bool (lside l)]) ∧ w' = w := by
  go_enter Try.func69, Try.ntmps69
  go_wp2
  all_goals (go_returns; refine ⟨ret_intb ?_ ?_, rfl⟩ <;> (try unfold lside) <;> unfold lvar <;> split <;> (try split) <;> (try omega) <;> (simp; try omega))
end Go.Proofs.Ytcanlckenjndbaa
namespace Go.Proofs.Ytcanlckenjndbaa
open Go.RowKit
set_option linter.unusedVariables false
def litT (m : List Bool) (l : Int) : Bool := decide (lvar l ≠ 0) && ((decide (lvar l ≤ m.length) && m.getD ((lvar l).toNat - 1) false) == lside l)
def holdsC (m : List Bool) (c : List Int) : Bool := c.any (litT m)
set_option maxHeartbeats 1000000 in
theorem ref_Holds (ca : Option Addr) (cl cc : Nat) (xs : List Int) (ma : Option Addr) (ml mc : Nat) (bs : List Bool) (w : World) (hc : IntRow w ca cl xs) (hm : BoolRow w ma ml bs) :
    Calls Try.prog 23 #[.slice ca cl cc, .slice ma ml mc] w fun e w' => e = .returned (.bool (holdsC bs xs)) ∧ w = w' := by
  have m1 := hc.2.1; have m2 := hm.2.1; unfold maxLen at m1 m2
  have HC := Lib.hid hc; have HM := Lib.hid hm
  have HCL := Lib.hid hc.1; have HML := Lib.hid hm.1
  clear hc hm
  go_enter Try.func23, Try.ntmps23
  go_wp2_with fail
  go_loop [5] (fun i => ∃ k : Nat, k ≤ cl ∧ i = .int .i64 k ∧ ∀ j, j < k → litT bs (xs.getD j 0) = false) (fun i => cl - (intOf i).toNat)
  case atStart => exact ⟨0, Nat.zero_le _, rfl, fun j hj => by omega⟩
  case round =>
    obtain ⟨k, hk, rfl, hall⟩ := hrel
    have HALL := Lib.hid hall; clear hall
    by_cases hlt : k < cl
    · obtain ⟨b, off, rfl, hcell⟩ := HC.out.2.2 (by omega)
      have hck := hcell k hlt
      clear hcell
      have hL : litT bs (xs.getD k 0) = (decide (lvar (xs.getD k 0) ≠ 0) && ((decide (lvar (xs.getD k 0) ≤ (ml : Int)) && bs.getD ((lvar (xs.getD k 0)).toNat - 1) false) == lside (xs.getD k 0))) := by unfold litT; rw [HML.out]
      have HXK : Hid (litT bs (xs.getD k 0) = true → holdsC bs xs = true) := Lib.hid (fun h => List.any_eq_true.2 ⟨_, by rw [List.getD_eq_getElem?_getD, List.getElem?_eq_getElem (by rw [HCL.out]; exact hlt)]; simp, h⟩)
      generalize hx : xs.getD k 0 = x at *
      have HX := Lib.hid hx; clear hx
      have hb := lvar_bd x
      cases hside : lside x
      all_goals
        rw [hside] at hL
        by_cases hv0 : lvar x = 0
        · have hLf : litT bs x = false := by rw [hL]; simp [hv0]
          have hv1 : (lvar x == 0) = true := by simpa using hv0
          have HLF := Lib.hid hLf; clear hLf hL hv0
          go_wp2_with (go_at_call 69; refine (ref_Split _ _).mono ?_; rintro e w' ⟨rfl, rfl⟩)
          go_round
          case rel => exact ⟨k + 1, by omega, by go_num, fun j hj => by rcases Nat.lt_or_ge j k with h | h; exact HALL.out j h; obtain rfl : j = k := (by omega); rw [HX.out]; exact HLF.out⟩
          case measure => simp [intOf]; omega
        · have hv1 : (lvar x == 0) = false := by simpa using hv0
          by_cases hle : lvar x ≤ (ml : Int)
          · obtain ⟨q, hq⟩ : ∃ q : Nat, lvar x = (q : Int) + 1 := ⟨(lvar x).toNat - 1, by omega⟩
            obtain ⟨mb, mo, rfl, hmc⟩ := HM.out.2.2 (by omega)
            have hmq := hmc q (by omega)
            rw [hq, show ((q : Int) + 1).toNat - 1 = q by omega] at hL
            have HQ := Lib.hid hq; clear hq hmc
            cases hbq : bs.getD q false
            all_goals
              rw [hbq] at hmq hL
              have hd0 : decide ((q : Int) + 1 ≠ 0) = true := by simp; omega
              have hd : decide ((q : Int) + 1 ≤ (ml : Int)) = true := by have := HQ.out; simp; omega
              rw [hd0, hd] at hL
              have HL := Lib.hid hL
              have hle2 : (q : Int) + 1 ≤ (ml : Int) := by have := HQ.out; omega
              have hq1 : ((q : Int) + 1 == 0) = false := by simp; omega
              clear hL hv0 hv1 hle hbq hd0 hb
              go_wp2_with (go_at_call 69; refine (ref_Split _ _).mono ?_; rintro e w' ⟨rfl, rfl⟩; rw [HQ.out])
              first
                | (go_ret; exact ⟨ret_bool (HXK.out (by rw [HL.out]; rfl)).symm, rfl⟩)
                | (go_round
                   case rel => exact ⟨k + 1, by omega, by go_num, fun j hj => by rcases Nat.lt_or_ge j k with h | h; exact HALL.out j h; obtain rfl : j = k := (by omega); rw [HX.out, HL.out]; rfl⟩
                   case measure => simp [intOf]; omega)
          · have hd : decide (lvar x ≤ (ml : Int)) = false := by simpa using hle
            have hd0 : decide (lvar x ≠ 0) = true := by simpa using hv0
            rw [hd, hd0] at hL
            have HL := Lib.hid hL; clear hL hv0
            go_wp2_with (go_at_call 69; refine (ref_Split _ _).mono ?_; rintro e w' ⟨rfl, rfl⟩)
            first
              | (go_ret; exact ⟨ret_bool (HXK.out (by rw [HL.out]; rfl)).symm, rfl⟩)
              | (go_round
                 case rel => exact ⟨k + 1, by omega, by go_num, fun j hj => by rcases Nat.lt_or_ge j k with h | h; exact HALL.out j h; obtain rfl : j = k := (by omega); rw [HX.out, HL.out]; rfl⟩
                 case measure => simp [intOf]; omega)
    · have hkl : k = cl := by omega
      have HKL := Lib.hid hkl; clear hkl
      go_wp2_with fail
      go_ret
      refine ⟨ret_bool ?_, rfl⟩
      symm
      rw [Bool.eq_false_iff]
      intro h
      obtain ⟨l, hl, ht⟩ := List.any_eq_true.1 h
      obtain ⟨j, hj, e⟩ := List.mem_iff_getElem.1 hl
      have := HALL.out j (by rw [HKL.out, ← HCL.out]; exact hj)
      rw [show xs.getD j 0 = l by simp [List.getD, hj, e], ht] at this
      cases this
end Go.Proofs.Ytcanlckenjndbaa
namespace Go.Proofs.Ytcanlckenjndbaa
set_option linter.unusedVariables false
end Go.Proofs.Ytcanlckenjndbaa
