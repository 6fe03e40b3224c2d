/- The contracts of the reference of clause: Has, Subset, Taut. -/
import Derived.Test.YtcifneenbdibeaaClaQ
import Derived.Test.YtcifneenbdibeaaHas
namespace Go.Proofs.Ytcifneenbdibeaa
open Go.RowKit
set_option linter.unusedVariables false
set_option linter.unusedSimpArgs false

theorem lindex_dec (x : Int) : decide (0 ≤ lindex x) = decide (lvar x ≠ 0) := by
  have := lvar_bd x
  unfold lindex
  by_cases h : lvar x = 0
  · simp [h]
  · rw [if_neg h]
    split <;> simp [h] <;> omega
set_option maxRecDepth 100000 in
theorem ref_Has02 (a : Option Addr) (len cap : Nat) (xs : List Int) (l : Int) (w : World) (hr : IntRow w a len xs) : Calls Try.prog 14 #[.slice a len cap, .int .i64 l] w fun e w' => e = .returned (.bool (cHas xs l)) ∧ w' = w := by
  have HR := Lib.hid hr
  have hge := lindex_dec l
  clear hr
  by_cases hz : lvar l ≠ 0
  · rw [decide_eq_true hz] at hge
    have HV : Hid (cHas xs l = lhas xs l) := Lib.hid (by unfold cHas; rw [decide_eq_true hz]; rfl)
    clear hz
    go_enter Try.func14, Try.ntmps14
    go_wp2_with (first | (go_at_call 30; refine (ref_Index _ _).mono ?_; rintro e w' ⟨rfl, rfl⟩) | (go_at_call 27; refine (ref_Has _ _ _ xs _ _ HR.out).mono ?_; rintro e w' ⟨rfl, rfl⟩))
    go_ret
    exact ⟨ret_bool HV.out.symm, rfl⟩
  · rw [decide_eq_false hz] at hge
    have HV : Hid (cHas xs l = false) := Lib.hid (by unfold cHas; rw [decide_eq_false hz]; rfl)
    clear hz
    go_enter Try.func14, Try.ntmps14
    go_wp2_with (first | (go_at_call 30; refine (ref_Index _ _).mono ?_; rintro e w' ⟨rfl, rfl⟩))
    go_ret
    exact ⟨ret_bool HV.out.symm, rfl⟩
theorem at_in {xs : List Int} {k len : Nat} (h : xs.length = len) (hk : k < len) : xs.getD k 0 ∈ xs := by
  have hk' : k < xs.length := by rw [h]; exact hk
  simp [List.getD, hk']
theorem all_in {xs : List Int} {len : Nat} {p : Int → Prop} (h : xs.length = len) (hp : ∀ i, i < len → p (xs.getD i 0)) : ∀ x ∈ xs, p x := fun x hx => by
  obtain ⟨i, hi, rfl⟩ := List.mem_iff_getElem.1 hx
  have := hp i (by rw [← h]; exact hi)
  simpa [List.getD, hi] using this
set_option maxRecDepth 100000 in
theorem ref_Subset02 (a : Option Addr) (len cap : Nat) (xs : List Int) (a2 : Option Addr) (len2 cap2 : Nat) (ys : List Int) (w : World) (hr : IntRow w a len xs) (hr2 : IntRow w a2 len2 ys) : Calls Try.prog 18 #[.slice a len cap, .slice a2 len2 cap2] w fun e w' => e = .returned (.bool (cSub xs ys)) ∧ w = w' := by
  have hm := hr.2.1; unfold maxLen at hm
  have HR := Lib.hid hr; have HR2 := Lib.hid hr2
  have HL := Lib.hid hr.1
  clear hr hr2
  go_enter Try.func18, Try.ntmps18
  go_wp2_with fail
  go_loop [5] (fun i => ∃ k : Nat, k ≤ len ∧ i = .int .i64 k ∧ ∀ j, j < k → (decide (lvar (xs.getD j 0) = 0) || lhas ys (xs.getD j 0)) = true) (fun i => len - (intOf i).toNat)
  case atStart => exact ⟨0, Nat.zero_le _, rfl, fun j hj => by omega⟩
  case round =>
    obtain ⟨k, hk, rfl, hall⟩ := hrel
    have HALL := Lib.hid hall; clear hall
    have t1 : (0 : Int) ≤ (k : Int) := by omega
    by_cases hlt : k < len
    · obtain ⟨b, off, rfl, hcells⟩ := HR.out.2.2 (by omega)
      have hck := hcells k hlt
      have t2 : (k : Int) < (len : Int) := by omega
      have HI := Lib.hid (at_in HL.out hlt)
      have HX : Hid ((decide (lvar (xs.getD k 0) = 0) || lhas ys (xs.getD k 0)) = true → ∀ j, j < k + 1 → (decide (lvar (xs.getD j 0) = 0) || lhas ys (xs.getD j 0)) = true) := Lib.hid (fun h j hj => by
        rcases Nat.lt_or_ge j k with h1 | h1
        · exact HALL.out j h1
        · rw [show j = k by omega]; exact h)
      clear hcells
      generalize hz : xs.getD k 0 = z at *
      clear hz
      cases hp : cHas xs z
      · have HE := Lib.hid (HX.out (by
          have h1 : ¬ lvar z ≠ 0 := fun h => by rw [(has_iff xs z).2 ⟨h, HI.out⟩] at hp; cases hp
          rw [decide_eq_true (by omega : lvar z = 0)]; rfl))
        have HP := Lib.hid hp
        clear hp
        go_wp2_with (go_at_call 14; refine (ref_Has02 _ _ _ xs _ _ HR.out).mono ?_; rintro e w' ⟨rfl, rfl⟩; rw [HP.out])
        go_round
        case rel => exact ⟨k + 1, by omega, by go_num, HE.out⟩
        case measure => simp [intOf]; omega
      · have HP := Lib.hid hp
        have HV := Lib.hid ((has_iff xs z).1 hp).1
        clear hp
        cases hq : cHas ys z
        · have HE : Hid (cSub xs ys = false) := Lib.hid (by
            rw [← Bool.not_eq_true, sub_iff]
            intro h
            have := h z HI.out HV.out
            rw [(has_iff ys z).2 ⟨HV.out, this⟩] at hq; cases hq)
          have HQ := Lib.hid hq
          clear hq
          go_wp2_with fail
          refine (ref_Has02 _ _ _ xs _ _ HR.out).mono ?_
          rintro e w' ⟨rfl, rfl⟩
          rw [HP.out]
          go_wp2_with fail
          refine (ref_Has02 _ _ _ ys _ _ HR2.out).mono ?_
          rintro e w' ⟨rfl, rfl⟩
          rw [HQ.out]
          go_wp2_with fail
          go_ret
          exact ⟨ret_bool HE.out.symm, rfl⟩
        · have HE := Lib.hid (HX.out (by
            rw [(lhas_mem ys z).2 ((has_iff ys z).1 hq).2]; simp))
          have HQ := Lib.hid hq
          clear hq
          go_wp2_with fail
          refine (ref_Has02 _ _ _ xs _ _ HR.out).mono ?_
          rintro e w' ⟨rfl, rfl⟩
          rw [HP.out]
          go_wp2_with fail
          refine (ref_Has02 _ _ _ ys _ _ HR2.out).mono ?_
          rintro e w' ⟨rfl, rfl⟩
          rw [HQ.out]
          go_wp2_with fail
          go_round
          case rel => exact ⟨k + 1, by omega, by go_num, HE.out⟩
          case measure => simp [intOf]; omega
    · have hkn : k = len := by omega
      subst hkn
      have HE : Hid (cSub xs ys = true) := Lib.hid (by
        unfold cSub
        rw [List.all_eq_true]
        exact all_in (p := fun x => (decide (lvar x = 0) || lhas ys x) = true) HL.out HALL.out)
      go_wp2_with fail
      go_ret
      exact ⟨ret_bool HE.out.symm, rfl⟩
set_option maxRecDepth 100000 in
theorem ref_Taut02 (a : Option Addr) (len cap : Nat) (xs : List Int) (w : World) (hr : IntRow w a len xs) : Calls Try.prog 16 #[.slice a len cap] w fun e w' => e = .returned (.bool (cTaut xs)) ∧ w = w' := by
  have hm := hr.2.1; unfold maxLen at hm
  have HR := Lib.hid hr
  have HL := Lib.hid hr.1
  clear hr
  go_enter Try.func16, Try.ntmps16
  go_wp2_with fail
  go_loop [3] (fun i => ∃ k : Nat, k ≤ len ∧ i = .int .i64 k ∧ ∀ j, j < k → (cHas xs (xs.getD j 0) && cHas xs (-xs.getD j 0)) = false) (fun i => len - (intOf i).toNat)
  case atStart => exact ⟨0, Nat.zero_le _, rfl, fun j hj => by omega⟩
  case round =>
    obtain ⟨k, hk, rfl, hall⟩ := hrel
    have HALL := Lib.hid hall; clear hall
    have t1 : (0 : Int) ≤ (k : Int) := by omega
    by_cases hlt : k < len
    · obtain ⟨b, off, rfl, hcells⟩ := HR.out.2.2 (by omega)
      have hck := hcells k hlt
      have t2 : (k : Int) < (len : Int) := by omega
      have HI := Lib.hid (at_in HL.out hlt)
      have HX : Hid ((cHas xs (xs.getD k 0) && cHas xs (-xs.getD k 0)) = false → ∀ j, j < k + 1 → (cHas xs (xs.getD j 0) && cHas xs (-xs.getD j 0)) = false) := Lib.hid (fun h j hj => by
        rcases Nat.lt_or_ge j k with h1 | h1
        · exact HALL.out j h1
        · rw [show j = k by omega]; exact h)
      clear hcells
      generalize hz : xs.getD k 0 = z at *
      clear hz
      cases hp : cHas xs z
      · have HE := Lib.hid (HX.out (by rw [hp]; rfl))
        have HP := Lib.hid hp
        clear hp
        go_wp2_with (go_at_call 14; refine (ref_Has02 _ _ _ xs _ _ HR.out).mono ?_; rintro e w' ⟨rfl, rfl⟩; rw [HP.out])
        go_round
        case rel => exact ⟨k + 1, by omega, by go_num, HE.out⟩
        case measure => simp [intOf]; omega
      · have HP := Lib.hid hp
        have HV := Lib.hid ((has_iff xs z).1 hp).1
        have HN : Hid (lneg z = -z) := Lib.hid (by unfold lneg; rw [if_neg HV.out])
        cases hq : cHas xs (-z)
        · have HE := Lib.hid (HX.out (by rw [hq]; simp))
          have HQ := Lib.hid hq
          clear hq hp
          go_wp2_with fail
          refine (ref_Has02 _ _ _ xs _ _ HR.out).mono ?_
          rintro e w' ⟨rfl, rfl⟩
          rw [HP.out]
          go_wp2_with (go_at_call 33; refine (ref_Neg _ _).mono ?_; rintro e w' ⟨rfl, rfl⟩; rw [HN.out])
          refine (ref_Has02 _ _ _ xs _ _ HR.out).mono ?_
          rintro e w' ⟨rfl, rfl⟩
          rw [HQ.out]
          go_wp2_with fail
          go_round
          case rel => exact ⟨k + 1, by omega, by go_num, HE.out⟩
          case measure => simp [intOf]; omega
        · have HE : Hid (cTaut xs = true) := Lib.hid (by
            unfold cTaut
            rw [List.any_eq_true]
            exact ⟨z, HI.out, by rw [hp, hq]; rfl⟩)
          have HQ := Lib.hid hq
          clear hq hp
          go_wp2_with fail
          refine (ref_Has02 _ _ _ xs _ _ HR.out).mono ?_
          rintro e w' ⟨rfl, rfl⟩
          rw [HP.out]
          go_wp2_with (go_at_call 33; refine (ref_Neg _ _).mono ?_; rintro e w' ⟨rfl, rfl⟩; rw [HN.out])
          refine (ref_Has02 _ _ _ xs _ _ HR.out).mono ?_
          rintro e w' ⟨rfl, rfl⟩
          rw [HQ.out]
          go_wp2_with fail
          go_ret
          exact ⟨ret_bool HE.out.symm, rfl⟩
    · have hkn : k = len := by omega
      subst hkn
      have HE : Hid (cTaut xs = false) := Lib.hid (by
        unfold cTaut
        rw [List.any_eq_false]
        intro x hx
        rw [Bool.not_eq_true]
        exact all_in (p := fun x => (cHas xs x && cHas xs (-x)) = false) HL.out HALL.out x hx)
      go_wp2_with fail
      go_ret
      exact ⟨ret_bool HE.out.symm, rfl⟩
end Go.Proofs.Ytcifneenbdibeaa
