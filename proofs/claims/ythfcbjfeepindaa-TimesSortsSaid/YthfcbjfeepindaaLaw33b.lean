/- Layer 33: TimesOrders. -/
import Derived.Test.YthfcbjfeepindaaTimW
import Derived.Test.YthfcbjfeepindaaTimX
import Derived.Test.YthfcbjfeepindaaLiftA
namespace Go.Proofs.Ythfcbjfeepindaa
open Go.RowKit
set_option linter.unusedVariables false
set_option linter.unusedSimpArgs false

/-- The guard of the laws of layer 33. -/
theorem guard33 (o s : Int) (k : Nat) : ¬ (o ≤ 10 ∧ nOk o s ∧ k ≤ 40) → (decide (10 < o) = true) ∨ (decide (10 < o) = false ∧ (nCheck o s != 0) = true) ∨ (decide (10 < o) = false ∧ (nCheck o s != 0) = false ∧ decide (40 < k) = true) := by
  intro h
  by_cases h1 : 10 < o
  · exact Or.inl (decide_eq_true h1)
  · by_cases h2 : nOk o s
    · exact Or.inr (Or.inr ⟨decide_eq_false h1, by rw [nCheck_yes h2]; rfl, decide_eq_true (by
        rcases Nat.lt_or_ge 40 k with h3 | h3
        · exact h3
        · exact absurd ⟨by omega, h2, h3⟩ h)⟩)
    · exact Or.inr (Or.inl ⟨decide_eq_false h1, by rw [nCheck_no h2]; rfl⟩)

set_option maxRecDepth 100000 in
set_option maxHeartbeats 8000000 in
theorem timesOrders_walk (w : World) (o s : Int) (wo : (Lit.int .i64 o).wf = true) (ws : (Lit.int .i64 s).wf = true) (a : Option Addr) (len cap : Nat) (hS : StructRow w 2 a len cap) (a2 : Option Addr) (len2 cap2 : Nat) (xs : List Int) (hr2 : IntRow w a2 len2 xs) (hf2 : Fits xs) (hcap2 : len2 ≤ cap2 ∧ cap2 ≤ maxLen ∧ (a2 = none → cap2 = 0)) :
    Calls Try.prog 11 #[.agg #[.int .i64 o, .int .i64 s], .slice a len cap, .slice a2 len2 cap2] w fun e w' => e = .returned (.bool true) ∧ Below w.heap.size w w' := by
  clear wo ws hcap2
  have hb1 : Below w.heap.size w (w.alloc (.cells #[.int .i64 o, .int .i64 s] 23)) := by (repeat (first | (with_reducible exact Below.refl _ _) | (with_reducible assumption) | (with_reducible refine below_alloc ?_ _) | (with_reducible refine below_drew ?_) | (with_reducible refine below_drewN ?_ _) | (with_reducible refine below_step ?_ (by with_reducible assumption))))
  obtain ⟨ps, hpr, hpb⟩ := hS.pairs
  have HR := Lib.hid (hpr.later hb1); have HR2 := Lib.hid (hr2.later hb1)
  have HPB := Lib.hid hpb
  have HXL := Lib.hid hr2.1
  have HXB : Hid (∀ i, i < len2 → -9223372036854775808 ≤ xs.getD i 0 ∧ xs.getD i 0 ≤ 9223372036854775807) := Lib.hid (fun i hi => by
    have hi' : i < xs.length := by rw [hr2.1]; exact hi
    have := hf2 xs[i] (List.getElem_mem hi')
    simpa [List.getD, hi'] using this)
  have hs1 := Blk.made w #[.int .i64 o, .int .i64 s] 23
  generalize hw1 : w.alloc (.cells #[.int .i64 o, .int .i64 s] 23) = W1 at *
  have HW1 := Lib.hid hw1; clear hw1
  have c0 := hs1.cell 0; have c1 := hs1.cell 1
  simp at c0 c1
  have d5 : decide (40 < (len : Int)) = decide (40 < len) := by rw [Bool.eq_iff_iff]; simp; omega
  have d6 : decide (60 < (len2 : Int)) = decide (60 < len2) := by rw [Bool.eq_iff_iff]; simp; omega
  clear hs1 hS hpr hpb hr2 hf2
  by_cases hG : o ≤ 10 ∧ nOk o s ∧ len ≤ 40
  rotate_left
  · rcases guard33 o s len hG with d1 | ⟨d1, d2⟩ | ⟨d1, d2, d3⟩
    all_goals
      clear hG
      first | rw [d3] at d5 | clear d5
      clear d6
      go_enter Try.func11, Try.ntmps11
      go_wp2_with fail
      try rw [HW1.out]
      go_wp2_with (first | (go_at_call 25; refine (num_Check _ _ _).mono ?_; rintro e w' ⟨rfl, hbC⟩; have c0 := cell_later hbC c0; have c1 := cell_later hbC c1) | (go_at_call 43; refine (law33_awake _).mono ?_; rintro e w' ⟨rfl, hbAw⟩))
      go_returns
      exact ⟨rfl, by first | (repeat (first | (with_reducible exact Below.refl _ _) | (with_reducible assumption) | (with_reducible refine below_alloc ?_ _) | (with_reducible refine below_drew ?_) | (with_reducible refine below_drewN ?_ _) | (with_reducible refine below_step ?_ (by with_reducible assumption)))) | (rw [HW1.out]; (repeat (first | (with_reducible exact Below.refl _ _) | (with_reducible assumption) | (with_reducible refine below_alloc ?_ _) | (with_reducible refine below_drew ?_) | (with_reducible refine below_drewN ?_ _) | (with_reducible refine below_step ?_ (by with_reducible assumption)))))⟩
  · obtain ⟨h10, hok, h40⟩ := hG
    have d1 : decide (10 < o) = false := decide_eq_false (by omega)
    have d2 : (nCheck o s != 0) = false := by rw [nCheck_yes hok]; rfl
    have d3 : decide (40 < len) = false := decide_eq_false (by omega)
    rw [d3] at d5
    by_cases h60 : 60 < len2
    · have d4 : decide (60 < len2) = true := decide_eq_true h60
      rw [d4] at d6
      clear h60 hok
      go_enter Try.func11, Try.ntmps11
      go_wp2_with fail
      rw [HW1.out]
      go_wp2_with (first | (go_at_call 25; refine (num_Check _ _ _).mono ?_; rintro e w' ⟨rfl, hbC⟩; have c0 := cell_later hbC c0; have c1 := cell_later hbC c1) | (go_at_call 43; refine (law33_awake _).mono ?_; rintro e w' ⟨rfl, hbAw⟩))
      go_returns
      exact ⟨rfl, by (repeat (first | (with_reducible exact Below.refl _ _) | (with_reducible assumption) | (with_reducible refine below_alloc ?_ _) | (with_reducible refine below_drew ?_) | (with_reducible refine below_drewN ?_ _) | (with_reducible refine below_step ?_ (by with_reducible assumption))))⟩
    · have d4 : decide (60 < len2) = false := decide_eq_false h60
      rw [d4] at d6
      have HOK := Lib.hid hok
      clear hok
      go_enter Try.func11, Try.ntmps11
      go_wp2_with fail
      rw [HW1.out]
      go_wp2_with (go_at_call 25; refine (num_Check _ _ _).mono ?_; rintro e w' ⟨rfl, hbC⟩; have c0 := cell_later hbC c0; have c1 := cell_later hbC c1)
      refine (pla_Truths_any o s _ _ _ xs _ (HR2.out.later (by (repeat (first | (with_reducible exact Below.refl _ _) | (with_reducible assumption) | (with_reducible refine below_alloc ?_ _) | (with_reducible refine below_drew ?_) | (with_reducible refine below_drewN ?_ _) | (with_reducible refine below_step ?_ (by with_reducible assumption))))))).mono ?_
      rintro e w2 ⟨ok, bs, v, rfl, hres, hown, hb2⟩
      have c0 := cell_later hb2 c0; have c1 := cell_later hb2 c1
      obtain ⟨ma, mc, rfl, _, _, hm⟩ := hown.row
      rcases hres with ⟨rfl, h1, h2, h3, h4⟩ | ⟨rfl, h1, h2⟩
      rotate_left
      · clear h1 h2 hm hown
        go_wp2_with (go_at_call 43; refine (law33_awake _).mono ?_; rintro e w' ⟨rfl, hbAw⟩)
        go_returns
        exact ⟨rfl, by (repeat (first | (with_reducible exact Below.refl _ _) | (with_reducible assumption) | (with_reducible refine below_alloc ?_ _) | (with_reducible refine below_drew ?_) | (with_reducible refine below_drewN ?_ _) | (with_reducible refine below_step ?_ (by with_reducible assumption))))⟩
      · obtain ⟨n, rfl⟩ : ∃ n : Nat, o = n := ⟨len2, by omega⟩
        rw [Int.toNat_natCast] at h3 h4
        have hiff := tC_holds h1 h3 (by rw [HXL.out]; omega) h4 ps
        have HI := Lib.hid hiff
        have HM := Lib.hid hm
        clear h1 h2 h3 h4 hiff hm hown
        go_wp2_with fail
        refine (tim_Against _ _ _ xs _ _ _ ps _ (HR2.out.later (by (repeat (first | (with_reducible exact Below.refl _ _) | (with_reducible assumption) | (with_reducible refine below_alloc ?_ _) | (with_reducible refine below_drew ?_) | (with_reducible refine below_drewN ?_ _) | (with_reducible refine below_step ?_ (by with_reducible assumption)))))) (by omega) (HR.out.later (by (repeat (first | (with_reducible exact Below.refl _ _) | (with_reducible assumption) | (with_reducible refine below_alloc ?_ _) | (with_reducible refine below_drew ?_) | (with_reducible refine below_drewN ?_ _) | (with_reducible refine below_step ?_ (by with_reducible assumption)))))) HXB.out HPB.out).mono ?_
        rintro e w3 ⟨rfl, hb3⟩
        have c0 := cell_later hb3 c0; have c1 := cell_later hb3 c1
        go_wp2_with fail
        refine (tim_Clauses _ _ _ _ _ ps _ (HR.out.later (by (repeat (first | (with_reducible exact Below.refl _ _) | (with_reducible assumption) | (with_reducible refine below_alloc ?_ _) | (with_reducible refine below_drew ?_) | (with_reducible refine below_drewN ?_ _) | (with_reducible refine below_step ?_ (by with_reducible assumption)))))) (by omega)).mono ?_
        rintro e w4 ⟨v4, rfl, hv4, hb4⟩
        obtain ⟨ca, cl, cc, rfl, _, _, hCr⟩ := hv4.rows
        go_wp2_with fail
        refine (ref_First _ _ _ _ _ _ _ _ bs _ hCr (HM.out.later (by (repeat (first | (with_reducible exact Below.refl _ _) | (with_reducible assumption) | (with_reducible refine below_alloc ?_ _) | (with_reducible refine below_drew ?_) | (with_reducible refine below_drewN ?_ _) | (with_reducible refine below_step ?_ (by with_reducible assumption))))))).mono ?_
        rintro e w5 ⟨i, rfl, hi, hb5⟩
        have e9 : (tAgOk xs ps == decide (i < 0)) = true := by
          have h7 : decide (i < 0) = tAgOk xs ps := by rw [Bool.eq_iff_iff, decide_eq_true_eq, hi]; exact HI.out
          rw [h7]; simp
        generalize tAgOk xs ps = b9 at *
        clear hi hv4 hCr
        go_wp2_with (go_at_call 43; refine (law33_awake _).mono ?_; rintro e w' ⟨rfl, hbAw⟩)
        go_returns
        exact ⟨rfl, by (repeat (first | (with_reducible exact Below.refl _ _) | (with_reducible assumption) | (with_reducible refine below_alloc ?_ _) | (with_reducible refine below_drew ?_) | (with_reducible refine below_drewN ?_ _) | (with_reducible refine below_step ?_ (by with_reducible assumption))))⟩
end Go.Proofs.Ythfcbjfeepindaa
