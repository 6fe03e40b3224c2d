import Derived.Test.YtcanlckenjndbaaMgAO
import Derived.Test.YtcanlckenjndbaaMgAL
import Derived.Test.YtcanlckenjndbaaMgAH
import Derived.Test.YtcanlckenjndbaaMgAI
import Derived.Test.YtcanlckenjndbaaMgAN
namespace Go.Proofs.Ytcanlckenjndbaa
open Go.RowKit
set_option linter.unusedVariables false
set_option linter.unusedSimpArgs false
theorem lindex_dec (x : Int) : decide (0 ≤ lindex x) = decide (lvar x ≠ 0) := by
  have := lvar_bd x
  unfold lindex
  by_cases h : lvar x = 0
  · simp [h]
  · rw [if_neg h]
    split <;> simp [h] <;> omega
set_option maxRecDepth 100000 in
theorem ref_Has02 (a : Option Addr) (len cap : Nat) (xs : List Int) (l : Int) (w : World) (hr : IntRow w a len xs) : Calls Try.prog 98 #[.slice a len cap, .int .i64 l] w fun e w' => e = .returned (.bool (cHas xs l)) ∧ w' = w := by
  have HR := Lib.hid hr
  have hge := lindex_dec l
  clear hr
  by_cases hz : lvar l ≠ 0
  · rw [decide_eq_true hz] at hge
    have HV : Hid (cHas xs l = lhas xs l) := Lib.hid (by unfold cHas; rw [decide_eq_true hz]; rfl)
    clear hz
    go_enter Try.func98, Try.ntmps98
    go_wp2_with (first | (go_at_call 36; refine (ref_Index _ _).mono ?_; rintro e w' ⟨rfl, rfl⟩) | (go_at_call 37; refine (ref_Has _ _ _ xs _ _ HR.out).mono ?_; rintro e w' ⟨rfl, rfl⟩))
    go_ret
    exact ⟨ret_bool HV.out.symm, rfl⟩
  · rw [decide_eq_false hz] at hge
    have HV : Hid (cHas xs l = false) := Lib.hid (by unfold cHas; rw [decide_eq_false hz]; rfl)
    clear hz
    go_enter Try.func98, Try.ntmps98
    go_wp2_with (first | (go_at_call 36; refine (ref_Index _ _).mono ?_; rintro e w' ⟨rfl, rfl⟩))
    go_ret
    exact ⟨ret_bool HV.out.symm, rfl⟩
theorem at_in {xs : List Int} {k len : Nat} (h : xs.length = len) (hk : k < len) : xs.getD k 0 ∈ xs := by
  have hk' : k < xs.length := by rw [h]; exact hk
  simp [List.getD, hk']
theorem all_in {xs : List Int} {len : Nat} {p : Int → Prop} (h : xs.length = len) (hp : ∀ i, i < len → p (xs.getD i 0)) : ∀ x ∈ xs, p x := fun x hx => by
  obtain ⟨i, hi, rfl⟩ := List.mem_iff_getElem.1 hx
  have := hp i (by rw [← h]; exact hi)
  simpa [List.getD, hi] using this
set_option maxRecDepth 100000 in
theorem ref_Taut02 (a : Option Addr) (len cap : Nat) (xs : List Int) (w : World) (hr : IntRow w a len xs) : Calls Try.prog 62 #[.slice a len cap] w fun e w' => e = .returned (.bool (cTaut xs)) ∧ w = w' := by
  have hm := hr.2.1; unfold maxLen at hm
  have HR := Lib.hid hr
  have HL := Lib.hid hr.1
  clear hr
  go_enter Try.func62, Try.ntmps62
  go_wp2_with fail
  go_loop [3] (fun i => ∃ k : Nat, k ≤ len ∧ i = .int .i64 k ∧ ∀ j, j < k → (cHas xs (xs.getD j 0) && cHas xs (-xs.getD j 0)) = false) (fun i => len - (intOf i).toNat)
  case atStart => exact ⟨0, Nat.zero_le _, rfl, fun j hj => by omega⟩
  case round =>
    obtain ⟨k, hk, rfl, hall⟩ := hrel
    have HALL := Lib.hid hall; clear hall
    have t1 : (0 : Int) ≤ (k : Int) := by omega
    by_cases hlt : k < len
    · obtain ⟨b, off, rfl, hcells⟩ := HR.out.2.2 (by omega)
      have hck := hcells k hlt
      have t2 : (k : Int) < (len : Int) := by omega
      have HI := Lib.hid (at_in HL.out hlt)
      have HX : Hid ((cHas xs (xs.getD k 0) && cHas xs (-xs.getD k 0)) = false → ∀ j, j < k + 1 → (cHas xs (xs.getD j 0) && cHas xs (-xs.getD j 0)) = false) := Lib.hid (fun h j hj => by
        rcases Nat.lt_or_ge j k with h1 | h1
        · exact HALL.out j h1
        · rw [show j = k by omega]; exact h)
      clear hcells
      generalize hz : xs.getD k 0 = z at *
      clear hz
      cases hp : cHas xs z
      · have HE := Lib.hid (HX.out (by rw [hp]; rfl))
        have HP := Lib.hid hp
        clear hp
        go_wp2_with (go_at_call 98; refine (ref_Has02 _ _ _ xs _ _ HR.out).mono ?_; rintro e w' ⟨rfl, rfl⟩; rw [HP.out])
        go_round
        case rel => exact ⟨k + 1, by omega, by go_num, HE.out⟩
        case measure => simp [intOf]; omega
      · have HP := Lib.hid hp
        have HV := Lib.hid ((has_iff xs z).1 hp).1
        have HN : Hid (lneg z = -z) := Lib.hid (by unfold lneg; rw [if_neg HV.out])
        cases hq : cHas xs (-z)
        · have HE := Lib.hid (HX.out (by rw [hq]; simp))
          have HQ := Lib.hid hq
          clear hq hp
          go_wp2_with fail
          refine (ref_Has02 _ _ _ xs _ _ HR.out).mono ?_
          rintro e w' ⟨rfl, rfl⟩
          rw [HP.out]
          go_wp2_with (go_at_call 99; refine (ref_Neg _ _).mono ?_; rintro e w' ⟨rfl, rfl⟩; rw [HN.out])
          refine (ref_Has02 _ _ _ xs _ _ HR.out).mono ?_
          rintro e w' ⟨rfl, rfl⟩
          rw [HQ.out]
          go_wp2_with fail
          go_round
          case rel => exact ⟨k + 1, by omega, by go_num, HE.out⟩
          case measure => simp [intOf]; omega
        · have HE : Hid (cTaut xs = true) := Lib.hid (by
            unfold cTaut
            rw [List.any_eq_true]
            exact ⟨z, HI.out, by rw [hp, hq]; rfl⟩)
          have HQ := Lib.hid hq
          clear hq hp
          go_wp2_with fail
          refine (ref_Has02 _ _ _ xs _ _ HR.out).mono ?_
          rintro e w' ⟨rfl, rfl⟩
          rw [HP.out]
          go_wp2_with (go_at_call 99; refine (ref_Neg _ _).mono ?_; rintro e w' ⟨rfl, rfl⟩; rw [HN.out])
          refine (ref_Has02 _ _ _ xs _ _ HR.out).mono ?_
          rintro e w' ⟨rfl, rfl⟩
          rw [HQ.out]
          go_wp2_with fail
          go_ret
          exact ⟨ret_bool HE.out.symm, rfl⟩
    · have hkn : k = len := by omega
      subst hkn
      have HE : Hid (cTaut xs = false) := Lib.hid (by
        unfold cTaut
        rw [List.any_eq_false]
        intro x hx
        rw [Bool.not_eq_true]
        exact all_in (p := fun x => (cHas xs x && cHas xs (-x)) = false) HL.out HALL.out x hx)
      go_wp2_with fail
      go_ret
      exact ⟨ret_bool HE.out.symm, rfl⟩
end Go.Proofs.Ytcanlckenjndbaa
namespace Go.Proofs.Ytcanlckenjndbaa
open Go.RowKit
set_option linter.unusedVariables false
set_option linter.unusedSimpArgs false
theorem pf_LVar (x : Int) : PF Try.prog 57 [lt (.int .i64 x)] fun r H' => r = lt (.int .i64 (lvar x)) ∧ H' = [] :=
  PF_of_walk ⟨_, Try.func57, by kernel_rfl, rfl⟩ fun G w vs hi hr => by
    obtain ⟨u, us, rfl, h1, hr⟩ := hr.uncons
    rw [hr.unnil, h1.lit_inv]
    exact (lit_Var x w).mono fun e w' h => ⟨h.1, h.2 ▸ Below.refl _ _⟩
theorem pf_LIndex (x : Int) : PF Try.prog 97 [lt (.int .i64 x)] fun r H' => r = lt (.int .i64 (lindex x)) ∧ H' = [] :=
  PF_of_walk ⟨_, Try.func97, by kernel_rfl, rfl⟩ fun G w vs hi hr => by
    obtain ⟨u, us, rfl, h1, hr⟩ := hr.uncons
    rw [hr.unnil, h1.lit_inv]
    exact (lit_Index x w).mono fun e w' h => ⟨h.1, h.2 ▸ Below.refl _ _⟩
theorem pf_LMost (xs : List Int) (hl : xs.length ≤ 1000000) : PF Try.prog 76 [.iv (iInts xs)] fun r H' => r = lt (.int .i64 (lmost xs)) ∧ H' = [] :=
  PF_of_walk ⟨_, Try.func76, by kernel_rfl, rfl⟩ fun G w vs hi hr => by
    obtain ⟨u, us, rfl, h1, hr⟩ := hr.uncons
    rw [hr.unnil]
    cases h1 with
    | iv _ _ h1 =>
      obtain ⟨a, ca, rfl, k1, k2, h4⟩ := ints_row hi.fz (by unfold maxLen; omega) h1
      exact (lit_Most a _ ca xs w h4).mono fun e w' h => ⟨h.1, h.2 ▸ Below.refl _ _⟩
theorem pf_cTautG (xs : List Int) (hl : xs.length ≤ 100000) : PF Try.prog 58 [.iv (iInts xs)] fun r H' => r = lt (.bool (cTaut xs)) ∧ H' = [] :=
  PF_of_walk ⟨_, Try.func58, by kernel_rfl, rfl⟩ fun G w vs hi hr => by
    obtain ⟨u, us, rfl, h1, hr⟩ := hr.uncons
    rw [hr.unnil]
    cases h1 with
    | iv _ _ h1 =>
      obtain ⟨a, ca, rfl, k1, k2, h4⟩ := ints_row hi.fz (by unfold maxLen; omega) h1
      exact cla_Taut a _ ca xs w h4 hl
theorem tb_tup2 (a b : Value) (G : Gh) : RA 0 G (.tup [lt a, lt b]) (.tuple #[a, b]) := .tup [lt a, lt b] [a, b] rfl (RL.two (.iv _ _ (.lit _)) (.iv _ _ (.lit _))).2
theorem pf_aClause (l c : List Int) (hl : l.length ≤ 1000000) (hc : c.length ≤ 1000000) (hf : Fits' l) (hf2 : Fits' c) : PF Try.prog 65 [.iv (iInts l), .iv (iInts c)] fun r H' => r = lt (.int .i64 (aCl l c)) ∧ H' = [] :=
  PF_of_walk ⟨_, Try.func65, by kernel_rfl, rfl⟩ fun G w vs hi hr => by
    obtain ⟨u, us, rfl, h1, hr⟩ := hr.uncons
    obtain ⟨u2, us, rfl, h3, hr⟩ := hr.uncons
    rw [hr.unnil]
    cases h1 with
    | iv _ _ h1 =>
      cases h3 with
      | iv _ _ h3 =>
        obtain ⟨a, ca, rfl, k1, k2, h4⟩ := ints_row hi.fz (by unfold maxLen; omega) h1
        obtain ⟨b, cb, rfl, k3, k4, h5⟩ := ints_row hi.fz (by unfold maxLen; omega) h3
        exact asg_Clause a _ ca l b _ cb c w h4 h5 hl hc hf hf2
theorem pf_aUnit (l c : List Int) (hl : l.length ≤ 1000000) (hc : c.length ≤ 1000000) (hf : Fits' l) (hf2 : Fits' c) : PF Try.prog 66 [.iv (iInts l), .iv (iInts c)] fun r H' => r = .tup [lt (.int .i64 (aUnit l c)), lt (.bool (aUnitOk l c))] ∧ H' = [] :=
  PF_of_walk2 ⟨_, Try.func66, by kernel_rfl, rfl⟩ (tb_tup2 _ _) fun G w vs hi hr => by
    obtain ⟨u, us, rfl, h1, hr⟩ := hr.uncons
    obtain ⟨u2, us, rfl, h3, hr⟩ := hr.uncons
    rw [hr.unnil]
    cases h1 with
    | iv _ _ h1 =>
      cases h3 with
      | iv _ _ h3 =>
        obtain ⟨a, ca, rfl, k1, k2, h4⟩ := ints_row hi.fz (by unfold maxLen; omega) h1
        obtain ⟨b, cb, rfl, k3, k4, h5⟩ := ints_row hi.fz (by unfold maxLen; omega) h3
        exact asg_Unit a _ ca l b _ cb c w h4 h5 hl hc hf hf2
theorem pf_r03Clause (l c : List Int) (hl : l.length ≤ 1000000) (hc : c.length ≤ 1000000) : PF Try.prog 67 [.iv (iInts l), .iv (iInts c)] fun r H' => r = lt (.int .i64 (aCl l c)) ∧ H' = [] :=
  PF_of_walk ⟨_, Try.func67, by kernel_rfl, rfl⟩ fun G w vs hi hr => by
    obtain ⟨u, us, rfl, h1, hr⟩ := hr.uncons
    obtain ⟨u2, us, rfl, h3, hr⟩ := hr.uncons
    rw [hr.unnil]
    cases h1 with
    | iv _ _ h1 =>
      cases h3 with
      | iv _ _ h3 =>
        obtain ⟨a, ca, rfl, k1, k2, h4⟩ := ints_row hi.fz (by unfold maxLen; omega) h1
        obtain ⟨b, cb, rfl, k3, k4, h5⟩ := ints_row hi.fz (by unfold maxLen; omega) h3
        exact (ref_Clause03 a _ ca l b _ cb c w h4 h5).mono fun e w' h => ⟨h.1, h.2 ▸ Below.refl _ _⟩
theorem pf_r03Unit (l c : List Int) (hl : l.length ≤ 1000000) (hc : c.length ≤ 1000000) : PF Try.prog 68 [.iv (iInts l), .iv (iInts c)] fun r H' => r = .tup [lt (.int .i64 (aUnit l c)), lt (.bool (aUnitOk l c))] ∧ H' = [] :=
  PF_of_walk2 ⟨_, Try.func68, by kernel_rfl, rfl⟩ (tb_tup2 _ _) fun G w vs hi hr => by
    obtain ⟨u, us, rfl, h1, hr⟩ := hr.uncons
    obtain ⟨u2, us, rfl, h3, hr⟩ := hr.uncons
    rw [hr.unnil]
    cases h1 with
    | iv _ _ h1 =>
      cases h3 with
      | iv _ _ h3 =>
        obtain ⟨a, ca, rfl, k1, k2, h4⟩ := ints_row hi.fz (by unfold maxLen; omega) h1
        obtain ⟨b, cb, rfl, k3, k4, h5⟩ := ints_row hi.fz (by unfold maxLen; omega) h3
        exact ref_Unit03 a _ ca l b _ cb c w h4 h5 hc
theorem pf_r02Taut (xs : List Int) (hl : xs.length ≤ 1000000) : PF Try.prog 62 [.iv (iInts xs)] fun r H' => r = lt (.bool (cTaut xs)) ∧ H' = [] :=
  PF_of_walk ⟨_, Try.func62, by kernel_rfl, rfl⟩ fun G w vs hi hr => by
    obtain ⟨u, us, rfl, h1, hr⟩ := hr.uncons
    rw [hr.unnil]
    cases h1 with
    | iv _ _ h1 =>
      obtain ⟨a, ca, rfl, k1, k2, h4⟩ := ints_row hi.fz (by unfold maxLen; omega) h1
      exact (ref_Taut02 a _ ca xs w h4).mono fun e w' h => ⟨h.1, h.2 ▸ Below.refl _ _⟩
theorem pf_r01Index (x : Int) : PF Try.prog 36 [lt (.int .i64 x)] fun r H' => r = lt (.int .i64 (lindex x)) ∧ H' = [] :=
  PF_of_walk ⟨_, Try.func36, by kernel_rfl, rfl⟩ fun G w vs hi hr => by
    obtain ⟨u, us, rfl, h1, hr⟩ := hr.uncons
    rw [hr.unnil, h1.lit_inv]
    exact (ref_Index x w).mono fun e w' h => ⟨h.1, h.2 ▸ Below.refl _ _⟩
end Go.Proofs.Ytcanlckenjndbaa
namespace Go.Proofs.Ytcanlckenjndbaa
set_option linter.unusedVariables false
def opens (l c : List Int) : List Int := c.filter (aIs l 0)
def tabUnit (l c : List Int) : Int := if 0 < aN l c 1 then 0 else if (opens l c).length = 1 then (opens l c).getLastD 0 else 0
theorem opens_snoc (l c : List Int) (x : Int) : opens l (c ++ [x]) = opens l c ++ if aIs l 0 x = true then [x] else [] := by
  unfold opens
  rw [List.filter_append, List.filter_cons, List.filter_nil]
theorem aN_none {l c : List Int} {len : Nat} (hl : c.length = len) (h : ∀ j, j < len → aIs l 1 (c.getD j 0) = false) : aN l c 1 = 0 := by
  unfold aN
  rw [List.length_eq_zero_iff, List.filter_eq_nil_iff]
  intro x hx
  obtain ⟨j, hj, rfl⟩ := List.mem_iff_getElem.1 hx
  have := h j (by omega)
  rw [show c.getD j 0 = c[j] by simp [List.getD, hj]] at this
  simp [this]
theorem aN_some {l c : List Int} {x : Int} (hx : x ∈ c) (h : aIs l 1 x = true) : 0 < aN l c 1 := by
  unfold aN
  exact List.length_pos_of_mem (List.mem_filter.2 ⟨hx, h⟩)
theorem aVal_cases3 (l : List Int) (x : Int) : (aVal l x = 1 ∧ aIs l 1 x = true ∧ aIs l 0 x = false) ∨ (aVal l x = -1 ∧ aIs l 1 x = false ∧ aIs l 0 x = false) ∨ (aVal l x = 0 ∧ aIs l 1 x = false ∧ aIs l 0 x = decide (lvar x ≠ 0)) := by
  unfold aIs aVal
  by_cases h : lvar x = 0
  · simp [h]
  · simp only [h]
    by_cases h1 : lhas l x = true
    · simp [h1, h]
    · by_cases h2 : lhas l (-x) = true
      · simp [h1, h2, h]
      · simp [h1, h2, h]
theorem tabUnit_eq (l c : List Int) : tabUnit l c = if aUnitOk l c = true then aUnit l c else 0 := by
  unfold tabUnit aUnit aUnitOk
  by_cases h1 : 0 < aN l c 1
  · rw [if_pos h1, if_neg (by rw [decide_eq_true_eq]; omega)]
  · rw [if_neg h1]
    by_cases h2 : (opens l c).length = 1
    · have h3 : decide (aN l c 1 = 0 ∧ aN l c 0 = 1) = true := by rw [decide_eq_true_eq]; exact ⟨by omega, h2⟩
      rw [if_pos h2, h3]
      simp only [if_true]
      obtain ⟨u, hu⟩ := List.length_eq_one_iff.1 h2
      have hu' : c.filter (aIs l 0) = [u] := hu
      rw [hu, hu']; rfl
    · have h3 : ¬ decide (aN l c 1 = 0 ∧ aN l c 0 = 1) = true := by rw [decide_eq_true_eq]; intro h; exact h2 h.2
      rw [if_neg h2, if_neg h3]
theorem tabUnit_ne {l c : List Int} (h : aUnitOk l c = true) : tabUnit l c ≠ 0 := by
  rw [tabUnit_eq, if_pos h]
  obtain ⟨u, _, h1, _, h2, _⟩ := aUnit_is h
  rw [h1]; exact (lvar_range h2).2.2
theorem tabUnit_zero {l c : List Int} (h : aUnitOk l c = false) : tabUnit l c = 0 := by rw [tabUnit_eq, if_neg (by rw [h]; decide)]
end Go.Proofs.Ytcanlckenjndbaa
