/- The contracts of assign's Value and Check, and of their reference. -/
import Derived.Test.YtmaaoijlchfdgaaAsgQ
import Derived.Test.YtmaaoijlchfdgaaLitW
import Derived.Test.YtmaaoijlchfdgaaSet
import Derived.Test.YtmaaoijlchfdgaaBlk
import Derived.BigGuardPart
import Derived.Handy
import Derived.Deep.QuietTactic
import Derived.BigQuiet
import Derived.Deep.RegionHeld3
namespace Go.Proofs.Ytmaaoijlchfdgaa
open Go.RowKit
set_option linter.unusedVariables false
set_option linter.unusedSimpArgs false

/-- All numbers fit an int. -/
def Fits' (xs : List Int) : Prop := ∀ x ∈ xs, -9223372036854775808 ≤ x ∧ x ≤ 9223372036854775807
theorem lhas_take (xs : List Int) (v : Int) {n : Nat} (h : xs.length = n) : lhas (xs.take n) v = lhas xs v := by rw [List.take_of_length_le (by omega)]
set_option maxRecDepth 100000 in
theorem ref_Has (a : Option Addr) (len cap : Nat) (xs : List Int) (v : Int) (w : World) (hr : IntRow w a len xs) : Calls Try.prog 31 #[.slice a len cap, .int .i64 v] w fun e w' => e = .returned (.bool (lhas xs v)) ∧ w = w' := by
  obtain ⟨hl, hm, hc⟩ := hr
  unfold maxLen at hm
  have HC := Lib.hid hc; clear hc
  have HL := Lib.hid hl; clear hl
  go_enter Try.func31, Try.ntmps31
  go_wp2_with fail
  go_loop [5] (fun i => ∃ k : Nat, k ≤ len ∧ i = .int .i64 k ∧ lhas (xs.take k) v = false) (fun i => len - (intOf i).toNat)
  case atStart => exact ⟨0, Nat.zero_le _, rfl, rfl⟩
  case round =>
    obtain ⟨k, hk, rfl, hn⟩ := hrel
    have HN := Lib.hid hn; clear hn
    have t1 : (0 : Int) ≤ (k : Int) := by omega
    by_cases hlt : k < len
    · obtain ⟨b, off, rfl, hcell⟩ := HC.out (by omega)
      have hck := hcell k hlt
      have t2 : (k : Int) < (len : Int) := by omega
      have HS := Lib.hid (lhas_snoc (xs.take k) (xs.getD k 0) v)
      have HT := Lib.hid (take_snoc xs k (by rw [HL.out]; exact hlt))
      have hmem : xs.getD k 0 ∈ xs := by rw [List.getD_eq_getElem?_getD, List.getElem?_eq_getElem (by rw [HL.out]; exact hlt)]; simp
      have HM := Lib.hid hmem
      clear hcell hmem
      generalize xs.getD k 0 = z at *
      by_cases he : z = v
      · have d1 : (z == v) = true := by simpa using he
        have HE : Hid (lhas xs v = true) := Lib.hid (by rw [lhas_iff, ← he]; exact HM.out)
        clear he
        go_wp2_with fail
        go_ret
        exact ⟨ret_bool HE.out.symm, rfl⟩
      · have d1 : (z == v) = false := by simpa using he
        have HE : Hid (lhas (xs.take (k + 1)) v = false) := Lib.hid (by
          rw [HT.out, HS.out, HN.out, Bool.false_or]
          simp; exact fun h => he h.symm)
        clear he
        go_wp2_with fail
        go_round
        case rel => exact ⟨k + 1, by omega, by go_num, HE.out⟩
        case measure => simp [intOf]; omega
    · have hkn : k = len := by omega
      subst hkn
      have HE : Hid (lhas xs v = false) := Lib.hid (by rw [← lhas_take xs v HL.out]; exact HN.out)
      go_wp2_with fail
      go_ret
      exact ⟨ret_bool HE.out.symm, rfl⟩

theorem ref_HasB (a : Option Addr) (len cap : Nat) (xs : List Int) (v : Int) (t : Bool) (w : World) (hr : IntRow w a len xs) (ht : lhas xs v = t) : Calls Try.prog 31 #[.slice a len cap, .int .i64 v] w fun e w' => e = .returned (.bool t) ∧ w' = w :=
  (ref_Has a len cap xs v w hr).mono fun e w' h => ⟨by rw [h.1, ht], h.2.symm⟩
theorem neg_lit {x : Int} (h : lvar x ≠ 0) : wrap64 (-x) = -x := by have := lvar_range h; exact IntWalk.wrap64_in _ ⟨by omega, by omega⟩
set_option maxRecDepth 100000 in
theorem asg_Value (a : Option Addr) (len cap : Nat) (xs : List Int) (x : Int) (w : World) (hr : IntRow w a len xs) : Calls Try.prog 12 #[.slice a len cap, .int .i64 x] w fun e w' => e = .returned (.int .i64 (aVal xs x)) ∧ w = w' := by
  rcases aVal_cases xs x with ⟨h, h2⟩ | ⟨h, h2⟩
  · have d1 : (lvar x == 0) = true := by simpa using h
    have H2 := Lib.hid h2; clear h h2
    go_enter Try.func12, Try.ntmps12
    go_wp2_with (go_at_call 29; refine (lit_Var _ _).mono ?_; rintro e w' ⟨rfl, rfl⟩)
    go_ret
    exact ⟨ret_int H2.out.symm, rfl⟩
  · have d1 : (lvar x == 0) = false := by simpa using h
    have e1 := neg_lit h
    have hx := lvar_range h
    clear h
    rcases h2 with ⟨h1, h2⟩ | ⟨h1, h3, h2⟩ | ⟨h1, h3, h2⟩
    all_goals
      have H2 := Lib.hid h2; clear h2
      go_enter Try.func12, Try.ntmps12
      go_wp2_with (first | (go_at_call 29; refine (lit_Var _ _).mono ?_; rintro e w' ⟨rfl, rfl⟩) | (go_at_call 32; refine (sl_Contains _ _ _ _ _ _ hr).mono ?_; rintro e w' ⟨rfl, rfl⟩; first | rw [h1] | rw [h3]))
      go_ret
      exact ⟨ret_int H2.out.symm, rfl⟩
set_option maxRecDepth 100000 in
theorem ref_Value03 (a : Option Addr) (len cap : Nat) (xs : List Int) (x : Int) (w : World) (hr : IntRow w a len xs) : Calls Try.prog 13 #[.slice a len cap, .int .i64 x] w fun e w' => e = .returned (.int .i64 (aVal xs x)) ∧ w = w' := by
  rcases aVal_cases xs x with ⟨h, h2⟩ | ⟨h, h2⟩
  · have d1 : decide (lindex x < 0) = true := by unfold lindex; rw [if_pos h]; rfl
    have H2 := Lib.hid h2; clear h h2
    go_enter Try.func13, Try.ntmps13
    go_wp2_with (go_at_call 27; refine (ref_Index _ _).mono ?_; rintro e w' ⟨rfl, rfl⟩)
    go_ret
    exact ⟨ret_int H2.out.symm, rfl⟩
  · have d1 : decide (lindex x < 0) = false := by
      have hb := lvar_bd x
      unfold lindex; rw [if_neg h]
      refine decide_eq_false ?_
      split <;> omega
    have e1 := neg_lit h
    have hx := lvar_range h
    clear h
    rcases h2 with ⟨h1, h2⟩ | ⟨h1, h3, h2⟩ | ⟨h1, h3, h2⟩
    all_goals
      have H2 := Lib.hid h2; clear h2
      go_enter Try.func13, Try.ntmps13
      go_wp2_with (first | (go_at_call 27; refine (ref_Index _ _).mono ?_; rintro e w' ⟨rfl, rfl⟩) | (go_at_call 31; refine (ref_Has _ _ _ _ _ _ hr).mono ?_; rintro e w' ⟨rfl, rfl⟩; first | rw [h1] | rw [h3]))
      go_ret
      exact ⟨ret_int H2.out.symm, rfl⟩

/-! ### Check -/
theorem lcheck_in {x vars : Int} (h1 : 0 ≤ vars) (h2 : vars ≤ 100000) : lcheck x vars = 0 ∨ lcheck x vars = 10 := by
  unfold lcheck; rw [if_neg (by omega)]; split <;> omega
theorem aCheck_bad {l : List Int} {vars : Int} (h1 : 0 ≤ vars) (h2 : vars ≤ 100000) {x : Int} (hx : x ∈ l) (hc : lcheck x vars ≠ 0) : aCheck l vars = 10 := by
  unfold aCheck
  rw [if_neg (by omega), if_pos]
  rw [List.all_eq_false]
  exact ⟨x, hx, by simpa using hc⟩
theorem aCheck_good {l : List Int} {vars : Int} (h1 : 0 ≤ vars) (h2 : vars ≤ 100000) (h : ∀ x ∈ l, lcheck x vars = 0) : aCheck l vars = if aDup l then 21 else 0 := by
  unfold aCheck
  rw [if_neg (by omega), if_neg]
  simp only [Bool.not_eq_false, List.all_eq_true, beq_iff_eq]
  exact h
theorem at_mem {xs : List Int} {k len : Nat} (h : xs.length = len) (hk : k < len) : xs.getD k 0 ∈ xs := by
  rw [List.getD_eq_getElem?_getD, List.getElem?_eq_getElem (by omega)]; simp
theorem all_at {xs : List Int} {len : Nat} {p : Int → Prop} (h : xs.length = len) (hp : ∀ i, i < len → p (xs.getD i 0)) : ∀ x ∈ xs, p x := fun x hx => by
  obtain ⟨i, hi, rfl⟩ := List.mem_iff_getElem.1 hx
  have := hp i (by omega)
  simpa [List.getD, hi] using this
set_option maxRecDepth 100000 in
set_option maxHeartbeats 1000000 in
theorem asg_Check (a : Option Addr) (len cap : Nat) (xs : List Int) (vars : Int) (w : World) (hr : IntRow w a len xs) (hlen : len ≤ 1000000) : Calls Try.prog 10 #[.slice a len cap, .int .i64 vars] w fun e w' => e = .returned (.int .i64 (aCheck xs vars)) ∧ Below w.heap.size w w' := by
  by_cases hv : vars < 0 ∨ 100000 < vars
  · have HA : Hid (aCheck xs vars = 2) := Lib.hid (by unfold aCheck; rw [if_pos hv])
    rcases hv with hv | hv
    · go_enter Try.func10, Try.ntmps10
      go_wp2_with fail
      go_ret
      exact ⟨ret_int HA.out.symm, Below.refl _ _⟩
    · have h2 : ¬ vars < 0 := by omega
      go_enter Try.func10, Try.ntmps10
      go_wp2_with fail
      go_ret
      exact ⟨ret_int HA.out.symm, Below.refl _ _⟩
  · have v1 : 0 ≤ vars := by omega
    have v2 : vars ≤ 100000 := by omega
    have d1 : decide (vars < 0) = false := decide_eq_false (by omega)
    have d2 : decide (100000 < vars) = false := decide_eq_false (by omega)
    obtain ⟨hl, hm, hc⟩ := hr
    have HR : Hid (IntRow w a len xs) := Lib.hid ⟨hl, hm, hc⟩
    unfold maxLen at hm
    have HL := Lib.hid hl
    clear hl hc hv
    have hmm := @run_makeMap Try.prog
    go_enter Try.func10, Try.ntmps10
    go_wp2_with fail
    clear d1 d2
    go_loop [6, 7, 19] (fun _ _ i => ∃ k : Nat, k ≤ len ∧ i = .int .i64 k ∧ ∀ j, j < k → lcheck (xs.getD j 0) vars = 0) (fun _ _ i => len - (intOf i).toNat)
    case atStart => exact ⟨0, Nat.zero_le _, rfl, fun j hj => by omega⟩
    case round =>
      obtain ⟨k, hk, rfl, hall⟩ := hrel
      have HALL := Lib.hid hall; clear hall
      have t1 : (0 : Int) ≤ (k : Int) := by omega
      by_cases hlt : k < len
      · obtain ⟨b, off, rfl, hcell⟩ := HR.out.2.2 (by omega)
        have hck := hcell k hlt
        have t2 : (k : Int) < (len : Int) := by omega
        have HM := Lib.hid (at_mem HL.out hlt)
        clear hcell
        by_cases he : lcheck (xs.getD k 0) vars = 0
        · have d3 : (lcheck (xs.getD k 0) vars != 0) = false := by simpa using he
          have HE : Hid (∀ j, j < k + 1 → lcheck (xs.getD j 0) vars = 0) := Lib.hid (fun j hj => by
            rcases Nat.lt_or_ge j k with h | h
            · exact HALL.out j h
            · rw [show j = k by omega]; exact he)
          clear he
          generalize hz : xs.getD k 0 = z at *
          clear hz
          go_wp2_with (go_at_call 30; refine (lit_Check _ _ _).mono ?_; rintro e w' ⟨rfl, rfl⟩)
          go_round
          case rel => exact ⟨k + 1, by omega, by go_num, HE.out⟩
          case measure => simp [intOf]; omega
        · have d3 : (lcheck (xs.getD k 0) vars != 0) = true := by simpa using he
          have HE : Hid (lcheck (xs.getD k 0) vars = aCheck xs vars) := Lib.hid (by
            rw [aCheck_bad v1 v2 HM.out he]
            rcases lcheck_in (x := xs.getD k 0) v1 v2 with h | h
            · exact absurd h he
            · exact h)
          clear he
          generalize xs.getD k 0 = z at *
          go_wp2_with (go_at_call 30; refine (lit_Check _ _ _).mono ?_; rintro e w' ⟨rfl, rfl⟩)
          go_ret
          exact ⟨ret_int HE.out, Below.refl _ _⟩
      · have hkn : k = len := by omega
        subst hkn
        have HG : Hid (aCheck xs vars = if aDup xs then 21 else 0) := Lib.hid (aCheck_good v1 v2 (all_at (p := fun x => lcheck x vars = 0) HL.out HALL.out))
        have HV : Hid (∀ j, j < k → lvar (xs.getD j 0) ≠ 0) := Lib.hid (fun j hj => ((lcheck_ok _ _).1 (HALL.out j hj)).2.2.1)
        have hbm : Below w.heap.size w (w.alloc (.map #[] 0)) := by (repeat (first | (with_reducible exact Below.refl _ _) | (with_reducible assumption) | (with_reducible refine below_alloc ?_ _) | (with_reducible refine below_drew ?_) | (with_reducible refine below_drewN ?_ _) | (with_reducible refine below_step ?_ (by with_reducible assumption))))
        have hM0 : IMap (w.alloc (.map #[] 0)) w.heap.size 0 (sF ((xs.take 0).map lvar)) := by rw [List.take_zero, List.map_nil, sF_nil]; exact IMap.made w
        have HM0 := Lib.hid hM0
        clear hM0 HALL hlt hk
        go_wp2_with fail
        clear hmm
        go_loopw [10, 33] (fun _ i wr => ∃ j : Nat, j ≤ k ∧ i = .int .i64 j ∧ IMap wr w.heap.size j (sF ((xs.take j).map lvar)) ∧ Below w.heap.size w wr) (fun _ i _ => k - (intOf i).toNat)
        case atStart => exact ⟨0, Nat.zero_le _, rfl, HM0.out, hbm⟩
        case round =>
          obtain ⟨j, hj, rfl, hM, hb⟩ := hrel
          have HM := Lib.hid hM
          clear hM
          have t3 : (0 : Int) ≤ (j : Int) := by omega
          by_cases hlt2 : j < k
          · have hra := HR.out.later hb
            obtain ⟨b, off, rfl, hc⟩ := hra.2.2 (by omega)
            have hck := hc j hlt2
            have t4 : (j : Int) < (k : Int) := by omega
            have HT : Hid ((xs.take (j + 1)).map lvar = (xs.take j).map lvar ++ [lvar (xs.getD j 0)]) := Lib.hid (by rw [take_snoc xs j (by rw [HL.out]; exact hlt2), List.map_append]; rfl)
            have hbd := lvar_bd (xs.getD j 0)
            generalize xs.getD j 0 = z at *
            generalize hS : (xs.take j).map lvar = S at *
            have HS := Lib.hid hS
            clear hra hc hS
            go_wp2_with (first | (go_at_call 29; refine (lit_Var _ _).mono ?_; rintro e w' ⟨rfl, rfl⟩) | (at_mapUpdate; refine wpList_mput rfl _ _ _ 48 rfl 49 Try.underlying48 w.heap.size j _ rfl HM.out (by unfold maxLen; omega) _ rfl (by omega) (by omega) (.agg #[]) rfl set_unit ?_))
            intro w7 hM7 hgr
            have hb7 := bel_grown hb hgr (Nat.le_refl _)
            rw [sF_push, ← HT.out] at hM7
            have HM7 := Lib.hid hM7
            clear hM7 hgr
            go_wp2_with fail
            go_roundw
            case rel => exact ⟨j + 1, by omega, by go_num, HM7.out, hb7⟩
            case measure => simp [intOf]; omega
          · have hjk : j = k := by omega
            subst hjk
            obtain ⟨S, hS⟩ : ∃ S, S = xs.map lvar := ⟨_, rfl⟩
            have hM9 := HM.out
            rw [List.take_of_length_le (by rw [HL.out]; exact Nat.le_refl _), ← hS] at hM9
            have HM := Lib.hid hM9
            have HS := Lib.hid hS
            clear hM9 hS HM0
            go_wp2_with (refine wpList_mlen rfl _ 48 rfl 49 Try.underlying48 w.heap.size j _ rfl HM.out ?_)
            intro ks hk1 hk2
            have hfew := set_few hk1 hk2
            rw [HS.out, List.length_map, HL.out] at hfew
            by_cases hd : aDup xs
            · have hG := HG.out
              rw [if_pos hd] at hG
              have HG2 := Lib.hid hG
              have d4 : decide (ks.length < j) = true := decide_eq_true (hfew.2 hd)
              have d5 : decide ((ks.length : Int) < (j : Int)) = true := by rw [decide_eq_true_eq]; rw [decide_eq_true_eq] at d4; omega
              clear hfew hk1 hk2 hd hG
              go_wp2_with fail
              go_ret
              exact ⟨ret_int HG2.out.symm, hb⟩
            · have hG := HG.out
              rw [if_neg hd] at hG
              have HG2 := Lib.hid hG
              have d4 : decide (ks.length < j) = false := decide_eq_false (fun h => hd (hfew.1 h))
              have d5 : decide ((ks.length : Int) < (j : Int)) = false := by rw [decide_eq_false_iff_not]; rw [decide_eq_false_iff_not] at d4; omega
              clear hfew hk1 hk2 hd hG
              go_wp2_with fail
              go_ret
              exact ⟨ret_int HG2.out.symm, hb⟩

/-! ### the reference's Check -/
theorem dup_at {xs : List Int} {k len : Nat} (hl : xs.length = len) (hk : k < len) (hv : ∀ j, j < len → lvar (xs.getD j 0) ≠ 0) : (lhas (xs.take k) (xs.getD k 0) = true ∨ lhas (xs.take k) (-xs.getD k 0) = true) ↔ ∃ i, i < k ∧ lvar (xs.getD i 0) = lvar (xs.getD k 0) := by
  have hm : ∀ y, y ∈ xs.take k ↔ ∃ i, i < k ∧ xs.getD i 0 = y := fun y => by
    rw [List.mem_iff_getElem]
    constructor
    · rintro ⟨i, hi, rfl⟩
      rw [List.length_take] at hi
      exact ⟨i, by omega, by simp [List.getD, show i < xs.length by omega]⟩
    · rintro ⟨i, hi, rfl⟩
      exact ⟨i, by rw [List.length_take]; omega, by simp [List.getD, show i < xs.length by omega]⟩
  rw [lhas_iff, lhas_iff, hm, hm]
  constructor
  · rintro (⟨i, hi, e⟩ | ⟨i, hi, e⟩)
    · exact ⟨i, hi, by rw [e]⟩
    · exact ⟨i, hi, by rw [e, lvar_neg]⟩
  · rintro ⟨i, hi, e⟩
    rcases lvar_same (hv i (by omega)) e with h | h
    · exact Or.inl ⟨i, hi, h⟩
    · exact Or.inr ⟨i, hi, h⟩
theorem nodup_at {xs : List Int} {len : Nat} (hl : xs.length = len) : aDup xs ↔ ∃ k, k < len ∧ ∃ i, i < k ∧ lvar (xs.getD i 0) = lvar (xs.getD k 0) := by
  unfold aDup
  rw [List.nodup_iff_pairwise_ne, List.pairwise_map, List.pairwise_iff_getElem]
  constructor
  · intro h
    refine Classical.byContradiction fun hn => h fun i j hi hj hij he => hn ⟨j, by omega, i, hij, ?_⟩
    simpa [List.getD, hi, hj] using he
  · rintro ⟨k, hk, i, hi, e⟩ h
    have := h i k (by omega) (by omega) hi
    rw [show xs.getD i 0 = xs[i]'(by omega) by simp [List.getD, show i < xs.length by omega], show xs.getD k 0 = xs[k]'(by omega) by simp [List.getD, show k < xs.length by omega]] at e
    exact this e
set_option maxRecDepth 100000 in
set_option maxHeartbeats 1000000 in
theorem ref_Check03 (a : Option Addr) (len cap : Nat) (xs : List Int) (vars : Int) (w : World) (hr : IntRow w a len xs) (hcap : len ≤ cap) : Calls Try.prog 11 #[.slice a len cap, .int .i64 vars] w fun e w' => e = .returned (.int .i64 (aCheck xs vars)) ∧ Below w.heap.size w w' := by
  by_cases hv : vars < 0 ∨ 100000 < vars
  · have HA : Hid (aCheck xs vars = 2) := Lib.hid (by unfold aCheck; rw [if_pos hv])
    rcases hv with hv | hv
    · go_enter Try.func11, Try.ntmps11
      go_wp2_with fail
      go_ret
      exact ⟨ret_int HA.out.symm, Below.refl _ _⟩
    · have h2 : ¬ vars < 0 := by omega
      go_enter Try.func11, Try.ntmps11
      go_wp2_with fail
      go_ret
      exact ⟨ret_int HA.out.symm, Below.refl _ _⟩
  · have v1 : 0 ≤ vars := by omega
    have v2 : vars ≤ 100000 := by omega
    have d1 : decide (vars < 0) = false := decide_eq_false (by omega)
    have d2 : decide (100000 < vars) = false := decide_eq_false (by omega)
    obtain ⟨hl, hm, hc⟩ := hr
    have HR : Hid (IntRow w a len xs) := Lib.hid ⟨hl, hm, hc⟩
    unfold maxLen at hm
    have HL := Lib.hid hl
    clear hl hc hv
    go_enter Try.func11, Try.ntmps11
    go_wp2_with fail
    clear d1 d2
    go_loop [5] (fun i => ∃ k : Nat, k ≤ len ∧ i = .int .i64 k ∧ ∀ j, j < k → lcheck (xs.getD j 0) vars = 0) (fun i => len - (intOf i).toNat)
    case atStart => exact ⟨0, Nat.zero_le _, rfl, fun j hj => by omega⟩
    case round =>
      obtain ⟨k, hk, rfl, hall⟩ := hrel
      have HALL := Lib.hid hall; clear hall
      have t1 : (0 : Int) ≤ (k : Int) := by omega
      by_cases hlt : k < len
      · obtain ⟨b, off, rfl, hcell⟩ := HR.out.2.2 (by omega)
        have hck := hcell k hlt
        have t2 : (k : Int) < (len : Int) := by omega
        have HM := Lib.hid (at_mem HL.out hlt)
        clear hcell
        by_cases he : lcheck (xs.getD k 0) vars = 0
        · have d3 : (lcheck (xs.getD k 0) vars != 0) = false := by simpa using he
          have HE : Hid (∀ j, j < k + 1 → lcheck (xs.getD j 0) vars = 0) := Lib.hid (fun j hj => by
            rcases Nat.lt_or_ge j k with h | h
            · exact HALL.out j h
            · rw [show j = k by omega]; exact he)
          clear he
          generalize hz : xs.getD k 0 = z at *
          clear hz
          go_wp2_with (go_at_call 25; refine (ref_Check _ _ _).mono ?_; rintro e w' ⟨rfl, rfl⟩)
          go_round
          case rel => exact ⟨k + 1, by omega, by go_num, HE.out⟩
          case measure => simp [intOf]; omega
        · have d3 : (lcheck (xs.getD k 0) vars != 0) = true := by simpa using he
          have HE : Hid (aCheck xs vars = 10) := Lib.hid (aCheck_bad v1 v2 HM.out he)
          clear he
          generalize xs.getD k 0 = z at *
          go_wp2_with (go_at_call 25; refine (ref_Check _ _ _).mono ?_; rintro e w' ⟨rfl, rfl⟩)
          go_ret
          exact ⟨ret_int HE.out.symm, Below.refl _ _⟩
      · have hkn : k = len := by omega
        subst hkn
        have HG : Hid (aCheck xs vars = if aDup xs then 21 else 0) := Lib.hid (aCheck_good v1 v2 (all_at (p := fun x => lcheck x vars = 0) HL.out HALL.out))
        have HV : Hid (∀ j, j < k → lvar (xs.getD j 0) ≠ 0) := Lib.hid (fun j hj => ((lcheck_ok _ _).1 (HALL.out j hj)).2.2.1)
        clear HALL hlt hk
        go_wp2_with fail
        go_loopw [6] (fun i wr => ∃ j : Nat, j ≤ k ∧ i = .int .i64 j ∧ (∀ q, q < j → ¬ ∃ i, i < q ∧ lvar (xs.getD i 0) = lvar (xs.getD q 0)) ∧ Below w.heap.size w wr) (fun i _ => k - (intOf i).toNat)
        case atStart => exact ⟨0, Nat.zero_le _, rfl, (fun q hq => by omega), Below.refl _ _⟩
        case round =>
          obtain ⟨j, hj, rfl, hno, hb⟩ := hrel
          have HNO := Lib.hid hno
          clear hno
          have t3 : (0 : Int) ≤ (j : Int) := by omega
          by_cases hlt2 : j < k
          · have hra := HR.out.later hb
            obtain ⟨b, off, rfl, hc⟩ := hra.2.2 (by omega)
            have hck := hc j hlt2
            have t4 : (j : Int) < (k : Int) := by omega
            have hjc : j ≤ cap := by omega
            have e1 := neg_lit (HV.out j hlt2)
            have hxr := lvar_range (HV.out j hlt2)
            have HD := Lib.hid (dup_at HL.out hlt2 HV.out)
            have HSub : Hid (∀ W, IntRow W (some ⟨b, off, none⟩) k xs → IntRow W (some ⟨b, off, none⟩) j (xs.take j)) := Lib.hid (fun W hW => by
              refine ⟨by rw [List.length_take, HL.out]; omega, by unfold maxLen; omega, fun hp => ?_⟩
              obtain ⟨b', o', e', c'⟩ := hW.2.2 (by omega)
              exact ⟨b', o', e', fun i hi => by rw [show (xs.take j).getD i 0 = xs.getD i 0 by simp [List.getD, hi]]; exact c' i (by omega)⟩)
            have HRA := Lib.hid hra
            clear hra hc
            generalize hz : xs.getD j 0 = z at *
            generalize hT : xs.take j = T at *
            have HZ := Lib.hid hz
            clear hz hT
            have HW : Hid (IntKind.i64.wrap (-z) = -z) := Lib.hid (IntWalk.i64_in _ (by omega))
            have hlb := World.block_lt_of_cell? wr _ hck
            dsimp only at hlb
            cases g1 : lhas T z
            · have HD1 := Lib.hid g1
              clear g1
              cases g2 : lhas T (-z)
              all_goals
                have HD2 := Lib.hid g2
                clear g2
                go_wp2_with fail
                go_region_held3 (fun wx => Below wr.heap.size wr wx ∧ wx.cell? ⟨b, off + j, none⟩ = some (.int .i64 z)) ((refine ⟨?_, ?_⟩; (repeat (first | (with_reducible exact Below.refl _ _) | (with_reducible assumption) | (with_reducible refine below_alloc ?_ _) | (with_reducible refine below_drew ?_) | (with_reducible refine below_drewN ?_ _) | (with_reducible refine below_step ?_ (by with_reducible assumption)))); all_goals (refine cell_later (w := wr) ?_ ?_ <;> (repeat (first | (with_reducible exact Below.refl _ _) | (with_reducible assumption) | (with_reducible refine below_alloc ?_ _) | (with_reducible refine below_drew ?_) | (with_reducible refine below_drewN ?_ _) | (with_reducible refine below_step ?_ (by with_reducible assumption))))))) (first | (go_at_call 31; refine (ref_Has _ _ _ T _ _ (HSub.out _ (HRA.out.later (by (repeat (first | (with_reducible exact Below.refl _ _) | (with_reducible assumption) | (with_reducible refine below_alloc ?_ _) | (with_reducible refine below_drew ?_) | (with_reducible refine below_drewN ?_ _) | (with_reducible refine below_step ?_ (by with_reducible assumption)))))))).mono ?_; rintro e w' ⟨rfl, rfl⟩; first | rw [HD1.out] | rw [HW.out, HD2.out]))
                all_goals
                  rename_i hHeld
                  have hB3 := hHeld.1
                  clear hHeld
                  go_wp2_with fail
                  first
                  | go_roundw
                    case rel => exact ⟨j + 1, by omega, by go_num, (fun q hq => by
                      rcases Nat.lt_or_ge q j with h | h
                      · exact HNO.out q h
                      · rw [show q = j by omega]
                        intro hex
                        have := HD.out.2 (by rw [HZ.out] at hex; exact hex)
                        rw [HD1.out, HD2.out] at this
                        rcases this with h | h <;> cases h), by (repeat (first | (with_reducible exact Below.refl _ _) | (with_reducible assumption) | (with_reducible refine below_alloc ?_ _) | (with_reducible refine below_drew ?_) | (with_reducible refine below_drewN ?_ _) | (with_reducible refine below_step ?_ (by with_reducible assumption))))⟩
                    case measure => simp [intOf]; omega
                  | (go_ret
                     have hdup : aDup xs := (nodup_at HL.out).2 ⟨j, hlt2, by rw [HZ.out]; exact HD.out.1 (Or.inr HD2.out)⟩
                     exact ⟨ret_int (by rw [HG.out, if_pos hdup]), by (repeat (first | (with_reducible exact Below.refl _ _) | (with_reducible assumption) | (with_reducible refine below_alloc ?_ _) | (with_reducible refine below_drew ?_) | (with_reducible refine below_drewN ?_ _) | (with_reducible refine below_step ?_ (by with_reducible assumption))))⟩)
            · have HD1 := Lib.hid g1
              clear g1
              go_wp2_with fail
              have hq := fun (W : World) (hW : Below wr.heap.size wr W) => ref_HasB (some ⟨b, off, none⟩) j cap T z true W (HSub.out _ (HRA.out.later hW)) HD1.out
              go_quiet ((go_at_call 31; exact Calls.quiet_of_same (hq _ (by (repeat (first | (with_reducible exact Below.refl _ _) | (with_reducible assumption) | (with_reducible refine below_alloc ?_ _) | (with_reducible refine below_drew ?_) | (with_reducible refine below_drewN ?_ _) | (with_reducible refine below_step ?_ (by with_reducible assumption))))))))
              all_goals
                go_wp2_with fail
                go_ret
                have hdup : aDup xs := (nodup_at HL.out).2 ⟨j, hlt2, by rw [HZ.out]; exact HD.out.1 (Or.inl HD1.out)⟩
                exact ⟨ret_int (by rw [HG.out, if_pos hdup]), by (repeat (first | (with_reducible exact Below.refl _ _) | (with_reducible assumption) | (with_reducible refine below_alloc ?_ _) | (with_reducible refine below_drew ?_) | (with_reducible refine below_drewN ?_ _) | (with_reducible refine below_step ?_ (by with_reducible assumption))))⟩
          · have hjk : j = k := by omega
            subst hjk
            have hnd : ¬ aDup xs := fun h => by
              obtain ⟨q, hq, hex⟩ := (nodup_at HL.out).1 h
              exact HNO.out q hq hex
            have hG := HG.out
            rw [if_neg hnd] at hG
            have HG2 := Lib.hid hG
            clear hnd hG
            go_wp2_with fail
            go_ret
            exact ⟨ret_int HG2.out.symm, hb⟩
end Go.Proofs.Ytmaaoijlchfdgaa
