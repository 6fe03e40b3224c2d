/- The contract of the reference's Has: is a number in a list? -/
import Derived.Test.YtcifneenbdibeaaLitW
import Derived.Test.YtcifneenbdibeaaClaP
import Derived.Test.YtcifneenbdibeaaOwn
import Derived.BigGuardPart
import Derived.Handy
namespace Go.Proofs.Ytcifneenbdibeaa
open Go.RowKit
set_option linter.unusedVariables false
set_option linter.unusedSimpArgs false

/-- All numbers fit an int. -/
def Fits' (xs : List Int) : Prop := ∀ x ∈ xs, -9223372036854775808 ≤ x ∧ x ≤ 9223372036854775807
theorem lhas_take (xs : List Int) (v : Int) {n : Nat} (h : xs.length = n) : lhas (xs.take n) v = lhas xs v := by rw [List.take_of_length_le (by omega)]
set_option maxRecDepth 100000 in
theorem ref_Has (a : Option Addr) (len cap : Nat) (xs : List Int) (v : Int) (w : World) (hr : IntRow w a len xs) : Calls Try.prog 27 #[.slice a len cap, .int .i64 v] w fun e w' => e = .returned (.bool (lhas xs v)) ∧ w = w' := by
  obtain ⟨hl, hm, hc⟩ := hr
  unfold maxLen at hm
  have HC := Lib.hid hc; clear hc
  have HL := Lib.hid hl; clear hl
  go_enter Try.func27, Try.ntmps27
  go_wp2_with fail
  go_loop [5] (fun i => ∃ k : Nat, k ≤ len ∧ i = .int .i64 k ∧ lhas (xs.take k) v = false) (fun i => len - (intOf i).toNat)
  case atStart => exact ⟨0, Nat.zero_le _, rfl, rfl⟩
  case round =>
    obtain ⟨k, hk, rfl, hn⟩ := hrel
    have HN := Lib.hid hn; clear hn
    have t1 : (0 : Int) ≤ (k : Int) := by omega
    by_cases hlt : k < len
    · obtain ⟨b, off, rfl, hcell⟩ := HC.out (by omega)
      have hck := hcell k hlt
      have t2 : (k : Int) < (len : Int) := by omega
      have HS := Lib.hid (lhas_snoc (xs.take k) (xs.getD k 0) v)
      have HT := Lib.hid (take_snoc xs k (by rw [HL.out]; exact hlt))
      have hmem : xs.getD k 0 ∈ xs := by rw [List.getD_eq_getElem?_getD, List.getElem?_eq_getElem (by rw [HL.out]; exact hlt)]; simp
      have HM := Lib.hid hmem
      clear hcell hmem
      generalize xs.getD k 0 = z at *
      by_cases he : z = v
      · have d1 : (z == v) = true := by simpa using he
        have HE : Hid (lhas xs v = true) := Lib.hid (by rw [lhas_mem, ← he]; exact HM.out)
        clear he
        go_wp2_with fail
        go_ret
        exact ⟨ret_bool HE.out.symm, rfl⟩
      · have d1 : (z == v) = false := by simpa using he
        have HE : Hid (lhas (xs.take (k + 1)) v = false) := Lib.hid (by
          rw [HT.out, HS.out, HN.out, Bool.false_or]
          simp; exact fun h => he h.symm)
        clear he
        go_wp2_with fail
        go_round
        case rel => exact ⟨k + 1, by omega, by go_num, HE.out⟩
        case measure => simp [intOf]; omega
    · have hkn : k = len := by omega
      subst hkn
      have HE : Hid (lhas xs v = false) := Lib.hid (by rw [← lhas_take xs v HL.out]; exact HN.out)
      go_wp2_with fail
      go_ret
      exact ⟨ret_bool HE.out.symm, rfl⟩

theorem ref_HasB (a : Option Addr) (len cap : Nat) (xs : List Int) (v : Int) (t : Bool) (w : World) (hr : IntRow w a len xs) (ht : lhas xs v = t) : Calls Try.prog 27 #[.slice a len cap, .int .i64 v] w fun e w' => e = .returned (.bool t) ∧ w' = w :=
  (ref_Has a len cap xs v w hr).mono fun e w' h => ⟨by rw [h.1, ht], h.2.symm⟩
end Go.Proofs.Ytcifneenbdibeaa
