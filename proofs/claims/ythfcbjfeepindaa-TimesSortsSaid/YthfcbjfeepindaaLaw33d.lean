/- Layer 33: TimesSorts. -/
import Derived.Test.YthfcbjfeepindaaLaw33b
import Derived.Test.YthfcbjfeepindaaTimO
import Derived.Test.YthfcbjfeepindaaOpeL
import Derived.Test.YthfcbjfeepindaaOpeD
namespace Go.Proofs.Ythfcbjfeepindaa
open Go.RowKit
set_option linter.unusedVariables false
set_option linter.unusedSimpArgs false

/-- Of right operations each pair has the lesser number first. -/
theorem pairs_rise {xs : List Op5} (h : oGood xs xs.length) : ∀ p ∈ oPairs xs, ∃ i j : Nat, p = ((i : Int), (j : Int)) ∧ i < j ∧ j < xs.length := by
  intro p hp
  unfold oPairs at hp
  simp only [List.mem_flatMap, List.mem_range, List.mem_map, List.mem_filter] at hp
  obtain ⟨i, hi, j, ⟨hj, ha⟩, rfl⟩ := hp
  refine ⟨i, j, rfl, ?_, hj⟩
  have hm := oMay_zero (oErr_zero (h i hi)).1
  unfold oAhead at ha
  have ha := of_decide_eq_true ha
  have hs : (oAt xs i).s < (oAt xs j).s := by omega
  rcases Nat.lt_trichotomy i j with h1 | h1 | h1
  · exact h1
  · rw [h1] at hs; omega
  · have := h.rise h1 hi; omega
theorem sort_range {n : Nat} {ps : List (Int × Int)} (h : ∀ p ∈ ps, ∃ i j : Nat, p = ((i : Int), (j : Int)) ∧ i < j ∧ j < n) (k : Nat) (hk : k ≤ n) : tSortUp n ps k = some (List.range k) := by
  induction k with
  | zero => rfl
  | succ k ih =>
    have hl : tLeast n ps (List.range k) = k := by
      refine tLeast_eq (by omega) (fun y hy => ?_) ?_
      · unfold tFree; simp [hy]
      · unfold tFree
        rw [Bool.and_eq_true, List.all_eq_true]
        refine ⟨by simp, fun p hp => ?_⟩
        obtain ⟨i, j, rfl, hij, hj⟩ := h p hp
        dsimp only
        by_cases e : j = k
        · subst e
          rw [Bool.or_eq_true]
          right
          simp [hij]
        · rw [Bool.or_eq_true]
          left
          simp only [Bool.not_eq_true', Bool.and_eq_false_iff]
          right
          simp; omega
    rw [tSortUp_step (ih (by omega)), hl, if_neg (by omega), List.range_succ]

set_option maxRecDepth 100000 in
set_option maxHeartbeats 8000000 in
theorem timesSorts_walk (w : World) (a : Option Addr) (len cap : Nat) (hS : StructRow w 5 a len cap) :
    Calls Try.prog 13 #[.slice a len cap] w fun e w' => e = .returned (.bool true) ∧ Below w.heap.size w w' := by
  by_cases hbig : 40 < len
  · have d1 : decide (40 < (len : Int)) = true := by simp; omega
    have d2 : decide (40 < len) = true := by simpa using hbig
    clear hS hbig
    go_enter Try.func13, Try.ntmps13
    go_wp2_with (go_at_call 43; refine (law33_awake _).mono ?_; rintro e w' ⟨rfl, hbAw⟩)
    go_returns
    exact ⟨rfl, by (repeat (first | (with_reducible exact Below.refl _ _) | (with_reducible assumption) | (with_reducible refine below_alloc ?_ _) | (with_reducible refine below_drew ?_) | (with_reducible refine below_drewN ?_ _) | (with_reducible refine below_step ?_ (by with_reducible assumption))))⟩
  · have d1 : decide (40 < (len : Int)) = false := by simp; omega
    have d2 : decide (40 < len) = false := by simpa using hbig
    obtain ⟨xs, hr⟩ := hS.ops (by omega)
    have HR := Lib.hid hr
    have HXL := Lib.hid hr.1
    have h40 : len ≤ 40 := by omega
    clear hS hr hbig
    go_enter Try.func13, Try.ntmps13
    go_wp2_with fail
    refine (ope_Check _ _ _ xs _ HR.out).mono ?_
    rintro e w1 ⟨k, c, rfl, hc, hb1⟩
    by_cases hc0 : c = 0
    rotate_left
    · have g1 : (c != 0) = true := by simpa using hc0
      clear hc hc0
      go_wp2_with (go_at_call 43; refine (law33_awake _).mono ?_; rintro e w' ⟨rfl, hbAw⟩)
      go_returns
      exact ⟨rfl, by (repeat (first | (with_reducible exact Below.refl _ _) | (with_reducible assumption) | (with_reducible refine below_alloc ?_ _) | (with_reducible refine below_drew ?_) | (with_reducible refine below_drewN ?_ _) | (with_reducible refine below_step ?_ (by with_reducible assumption))))⟩
    · have g1 : (c != 0) = false := by simpa using hc0
      have hgood : oGood xs xs.length := by
        unfold OChk at hc
        rcases hc with ⟨_, _, h⟩ | ⟨_, i, _, _, h4, _, h6⟩ | ⟨_, h, _⟩
        · omega
        · exact absurd (h6.symm.trans hc0) h4
        · exact h
      have hsr := sort_range (n := len) (ps := oPairs xs) (fun p hp => by
        obtain ⟨i, j, e1, e2, e3⟩ := pairs_rise hgood p hp
        exact ⟨i, j, e1, e2, by rw [← HXL.out]; exact e3⟩) len (Nat.le_refl _)
      have HSR := Lib.hid hsr
      clear hc hc0 hgood hsr
      go_wp2_with fail
      refine (ope_Pairs _ _ _ xs _ (HR.out.later hb1) (by omega)).mono ?_
      rintro e w2 ⟨v2, rfl, hv2, hb2⟩
      obtain ⟨a3, c3, rfl, _, _, hp3⟩ := hv2.row
      go_wp2_with fail
      refine (tim_Sort _ _ _ _ (oPairs xs) _ hp3).mono ?_
      rintro e w4 ⟨v4, rfl, hv4, hb4⟩
      have eT : tSort (len : Int) (oPairs xs) = some (List.range len) := by unfold tSort; rw [if_pos (by omega), Int.toNat_natCast, HSR.out]
      rw [eT] at hv4 ⊢
      simp only [Option.isSome_some, Option.getD_some] at hv4 ⊢
      obtain ⟨a7, l7, c7, rfl, _, _, hr7⟩ := hv4.ints
      have hl7 : l7 = len := by rw [← hr7.1, outI_len]; simp
      subst hl7
      have HR7 := Lib.hid hr7
      have HAT : Hid (∀ t, t < l7 → (outI (List.range l7)).getD t 0 = (t : Int)) := Lib.hid (fun t ht => by simp [outI, List.getD, ht])
      clear hv4 hr7 eT hv2 hp3
      go_wp2_with fail
      go_loopw [7] (fun i wz => ∃ t : Nat, t ≤ l7 ∧ i = .int .i64 t ∧ Below w4.heap.size w4 wz) (fun i _ => l7 - (intOf i).toNat)
      case atStart => exact ⟨0, Nat.zero_le _, rfl, Below.refl _ _⟩
      case round =>
        obtain ⟨t, ht, rfl, hbz⟩ := hrel
        have t1 : (0 : Int) ≤ (t : Int) := by omega
        by_cases hltt : t < l7
        · have hra := HR7.out.later hbz
          obtain ⟨b, off, rfl, hc⟩ := hra.2.2 (by omega)
          have hck := hc t hltt
          rw [HAT.out t hltt] at hck
          have t2 : (t : Int) < (l7 : Int) := by omega
          clear hc hra
          go_wp2_with fail
          go_roundw
          case rel => exact ⟨t + 1, by omega, by go_num, by (repeat (first | (with_reducible exact Below.refl _ _) | (with_reducible assumption) | (with_reducible refine below_alloc ?_ _) | (with_reducible refine below_drew ?_) | (with_reducible refine below_drewN ?_ _) | (with_reducible refine below_step ?_ (by with_reducible assumption))))⟩
          case measure => simp [intOf]; omega
        · have htl : t = l7 := by omega
          subst htl
          go_wp2_with (go_at_call 43; refine (law33_awake _).mono ?_; rintro e w' ⟨rfl, hbAw⟩)
          go_returns
          exact ⟨rfl, by (repeat (first | (with_reducible exact Below.refl _ _) | (with_reducible assumption) | (with_reducible refine below_alloc ?_ _) | (with_reducible refine below_drew ?_) | (with_reducible refine below_drewN ?_ _) | (with_reducible refine below_step ?_ (by with_reducible assumption))))⟩
end Go.Proofs.Ythfcbjfeepindaa
