/- The contracts of places.only, of places.Order and of its reference. -/
import Derived.Test.YthfcbjfeepindaaPlaR
import Derived.Test.YthfcbjfeepindaaPlaO
namespace Go.Proofs.Ythfcbjfeepindaa
open Go.RowKit
set_option linter.unusedVariables false

/-- What places.only answers: the one place of a truth, if there is just one. -/
def OnlyPost (vl : Nat) (xs : List Int) (bs : List Bool) (w : World) (e : Ending) (w' : World) : Prop := ∃ (p : Nat) (ok : Bool), e = .returned (.tuple #[.int .i64 p, .bool ok]) ∧ w = w' ∧
  (ok = true → p < vl ∧ ∀ j, j < vl → (bs.getD ((xs.getD j 0).toNat - 1) false = true ↔ j = p)) ∧ (ok = false → ∀ q, ¬ (q < vl ∧ ∀ j, j < vl → (bs.getD ((xs.getD j 0).toNat - 1) false = true ↔ j = q)))

set_option maxHeartbeats 1000000 in
theorem pla_only (va : Option Addr) (vl vc : Nat) (xs : List Int) (ma : Option Addr) (ml mc : Nat) (bs : List Bool) (w : World) (hv : IntRow w va vl xs) (hm : BoolRow w ma ml bs) (hvl : vl ≤ 1000) (hx : ∀ i, i < vl → ∃ j : Nat, xs.getD i 0 = (j : Int) + 1 ∧ j < ml) :
    Calls Try.prog 82 #[.slice va vl vc, .slice ma ml mc] w (OnlyPost vl xs bs w) := by
  have mm := hm.2.1; unfold maxLen at mm
  have HV := Lib.hid hv; have HM := Lib.hid hm; have HX := Lib.hid hx
  clear hv hm hx
  generalize hB : (fun j : Nat => bs.getD ((xs.getD j 0).toNat - 1) false) = B
  have HB : Hid (∀ j, bs.getD ((xs.getD j 0).toNat - 1) false = B j) := Lib.hid (fun j => by rw [← hB])
  clear hB
  go_enter Try.func82, Try.ntmps82
  go_wp2_with fail
  go_loop [6, 7, 12] (fun p c i => ∃ k cc pp : Nat, k ≤ vl ∧ i = .int .i64 k ∧ c = .int .i64 cc ∧ p = .int .i64 pp ∧ cc ≤ k ∧ Cnt B k cc pp) (fun _ _ i => vl - (intOf i).toNat)
  case atStart => exact ⟨0, 0, 0, Nat.zero_le _, rfl, rfl, rfl, Nat.le_refl _, .inl ⟨rfl, fun j hj => by omega⟩⟩
  case round =>
    obtain ⟨k, cc, pp, hk, rfl, rfl, rfl, hck, hcnt⟩ := hrel
    have HC := Lib.hid hcnt; clear hcnt
    by_cases hlt : k < vl
    · obtain ⟨b, off, rfl, hcell⟩ := HV.out.2.2 (by omega)
      have hc1 := hcell k hlt
      obtain ⟨j, hj1, hj2⟩ := HX.out k hlt
      rw [hj1] at hc1
      obtain ⟨mb, moff, rfl, hmc⟩ := HM.out.2.2 (by omega)
      have hc2 := hmc j hj2
      have hBk := HB.out k
      rw [hj1, show ((j : Int) + 1).toNat - 1 = j by omega] at hBk
      rw [hBk] at hc2
      have HJ := Lib.hid hj1
      clear hcell hmc hBk hj1
      cases hb : B k
      · rw [hb] at hc2
        have HN := Lib.hid (HC.out.no hb)
        clear hb
        go_wp2_with fail
        go_round
        case rel => exact ⟨k + 1, cc, pp, by omega, by go_num, rfl, rfl, by omega, HN.out⟩
        case measure => simp [intOf]; omega
      · rw [hb] at hc2
        have HN := Lib.hid (HC.out.yes hb)
        clear hb
        go_wp2_with fail
        go_round
        case rel => exact ⟨k + 1, cc + 1, k, by omega, by go_num, by go_num, rfl, by omega, HN.out⟩
        case measure => simp [intOf]; omega
    · have hkv : k = vl := by omega
      have hone := HC.out.one
      rw [hkv] at hone
      have HO := Lib.hid hone; clear hone
      have HKV := Lib.hid hkv; clear hkv
      by_cases hc : cc = 1
      · have hc1 : ((cc : Int) == 1) = true := by simp; omega
        have HCC := Lib.hid hc; clear hc
        go_wp2_with fail
        go_ret2
        exact ⟨pp, true, rfl, rfl, fun _ => ⟨(HO.out.1 HCC.out).1, fun j hj => by rw [HB.out]; exact (HO.out.1 HCC.out).2 j hj⟩, fun h => by cases h⟩
      · have hc1 : ((cc : Int) == 1) = false := by simp; omega
        have HCC := Lib.hid hc; clear hc
        go_wp2_with fail
        go_ret2
        exact ⟨pp, false, rfl, rfl, (fun h => by cases h), fun _ q hq => HO.out.2 HCC.out q ⟨hq.1, fun j hj => by rw [← HB.out]; exact hq.2 j hj⟩⟩
end Go.Proofs.Ythfcbjfeepindaa
