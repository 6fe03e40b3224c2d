/- The contracts of count.Fits and of the reference's. -/
import Derived.Test.YthfcbjfeepindaaCntB
namespace Go.Proofs.Ythfcbjfeepindaa
open Go.RowKit
set_option linter.unusedVariables false
set_option linter.unusedSimpArgs false

def kFits (o s : Int) (xs : List Op5) : Int := if kAll o s xs = 0 then 2 else if 500000 < kAll o s xs ∨ 900 < nVars o s then 3 else 0
theorem kAll_ok {o s : Int} {xs : List Op5} (h : kAll o s xs ≠ 0) : nOk o s := by
  unfold kAll at h
  split at h
  · rename_i h1; exact h1.2.1
  · exact absurd rfl h

set_option maxHeartbeats 1000000 in
theorem cnt_Fits (o s : Int) (a : Option Addr) (len cap : Nat) (xs : List Op5) (w : World) (hr : OpRow w a len xs) : Calls Try.prog 71 #[.agg #[.int .i64 o, .int .i64 s], .slice a len cap] w fun e w' => e = .returned (.int .i64 (kFits o s xs)) ∧ Below w.heap.size w w' := by
  have hb1 : Below w.heap.size w (w.alloc (.cells #[.int .i64 o, .int .i64 s] 23)) := by (repeat (first | (with_reducible exact Below.refl _ _) | (with_reducible assumption) | (with_reducible refine below_alloc ?_ _) | (with_reducible refine below_drew ?_) | (with_reducible refine below_drewN ?_ _) | (with_reducible refine below_step ?_ (by with_reducible assumption))))
  have hs1 := Blk.made w #[.int .i64 o, .int .i64 s] 23
  have HR := Lib.hid (hr.later hb1)
  generalize hw1 : w.alloc (.cells #[.int .i64 o, .int .i64 s] 23) = W1 at *
  have HW1 := Lib.hid hw1; clear hw1
  have c0 := hs1.cell 0; have c1 := hs1.cell 1
  simp at c0 c1
  clear hs1 hr
  by_cases h0 : kAll o s xs = 0
  · have HF : Hid (kFits o s xs = 2) := Lib.hid (by unfold kFits; rw [if_pos h0])
    have d0 : (kAll o s xs == 0) = true := by simpa using h0
    clear h0
    go_enter Try.func71, Try.ntmps71
    go_wp2_with fail
    rw [HW1.out]
    go_wp2_with (go_at_call 69; refine (cnt_All _ _ _ _ _ xs _ HR.out).mono ?_; rintro e w' ⟨rfl, hbA⟩; have c0 := cell_later hbA c0; have c1 := cell_later hbA c1)
    go_returns
    exact ⟨by rw [HF.out]; rfl, by (repeat (first | (with_reducible exact Below.refl _ _) | (with_reducible assumption) | (with_reducible refine below_alloc ?_ _) | (with_reducible refine below_drew ?_) | (with_reducible refine below_drewN ?_ _) | (with_reducible refine below_step ?_ (by with_reducible assumption))))⟩
  · have d0 : (kAll o s xs == 0) = false := by simpa using h0
    by_cases h1 : 500000 < kAll o s xs
    · have HF : Hid (kFits o s xs = 3) := Lib.hid (by unfold kFits; rw [if_neg h0, if_pos (Or.inl h1)])
      have d1 : decide (500000 < kAll o s xs) = true := decide_eq_true h1
      clear h0 h1
      go_enter Try.func71, Try.ntmps71
      go_wp2_with fail
      rw [HW1.out]
      go_wp2_with (go_at_call 69; refine (cnt_All _ _ _ _ _ xs _ HR.out).mono ?_; rintro e w' ⟨rfl, hbA⟩; have c0 := cell_later hbA c0; have c1 := cell_later hbA c1)
      go_returns
      exact ⟨by rw [HF.out]; rfl, by (repeat (first | (with_reducible exact Below.refl _ _) | (with_reducible assumption) | (with_reducible refine below_alloc ?_ _) | (with_reducible refine below_drew ?_) | (with_reducible refine below_drewN ?_ _) | (with_reducible refine below_step ?_ (by with_reducible assumption))))⟩
    · have d1 : decide (500000 < kAll o s xs) = false := decide_eq_false h1
      by_cases h2 : 900 < nVars o s
      · have HF : Hid (kFits o s xs = 3) := Lib.hid (by unfold kFits; rw [if_neg h0, if_pos (Or.inr h2)])
        have d2 : decide (900 < nVars o s) = true := decide_eq_true h2
        clear h0 h1 h2
        go_enter Try.func71, Try.ntmps71
        go_wp2_with fail
        rw [HW1.out]
        go_wp2_with (first | (go_at_call 69; refine (cnt_All _ _ _ _ _ xs _ HR.out).mono ?_; rintro e w' ⟨rfl, hbA⟩; have c0 := cell_later hbA c0; have c1 := cell_later hbA c1) | (go_at_call 27; refine (num_Vars _ _ _).mono ?_; rintro e w' ⟨rfl, hbV⟩))
        go_returns
        exact ⟨by rw [HF.out]; rfl, by (repeat (first | (with_reducible exact Below.refl _ _) | (with_reducible assumption) | (with_reducible refine below_alloc ?_ _) | (with_reducible refine below_drew ?_) | (with_reducible refine below_drewN ?_ _) | (with_reducible refine below_step ?_ (by with_reducible assumption))))⟩
      · have HF : Hid (kFits o s xs = 0) := Lib.hid (by unfold kFits; rw [if_neg h0, if_neg (fun h => h.elim h1 h2)])
        have d2 : decide (900 < nVars o s) = false := decide_eq_false h2
        clear h0 h1 h2
        go_enter Try.func71, Try.ntmps71
        go_wp2_with fail
        rw [HW1.out]
        go_wp2_with (first | (go_at_call 69; refine (cnt_All _ _ _ _ _ xs _ HR.out).mono ?_; rintro e w' ⟨rfl, hbA⟩; have c0 := cell_later hbA c0; have c1 := cell_later hbA c1) | (go_at_call 27; refine (num_Vars _ _ _).mono ?_; rintro e w' ⟨rfl, hbV⟩))
        go_returns
        exact ⟨by rw [HF.out]; rfl, by (repeat (first | (with_reducible exact Below.refl _ _) | (with_reducible assumption) | (with_reducible refine below_alloc ?_ _) | (with_reducible refine below_drew ?_) | (with_reducible refine below_drewN ?_ _) | (with_reducible refine below_step ?_ (by with_reducible assumption))))⟩

set_option maxHeartbeats 1000000 in
theorem rcnt_Fits (o s : Int) (a : Option Addr) (len cap : Nat) (xs : List Op5) (w : World) (hr : OpRow w a len xs) : Calls Try.prog 72 #[.int .i64 o, .int .i64 s, .slice a len cap] w fun e w' => e = .returned (.int .i64 (kFits o s xs)) ∧ Below w.heap.size w w' := by
  have HR := Lib.hid hr
  clear hr
  by_cases h0 : kAll o s xs = 0
  · have HF : Hid (kFits o s xs = 2) := Lib.hid (by unfold kFits; rw [if_pos h0])
    have d0 : (kAll o s xs == 0) = true := by simpa using h0
    clear h0
    go_enter Try.func72, Try.ntmps72
    go_wp2_with (go_at_call 70; refine (rcnt_All _ _ _ _ _ xs _ HR.out).mono ?_; rintro e w' ⟨rfl, hbA⟩)
    go_returns
    exact ⟨by rw [HF.out]; rfl, by (repeat (first | (with_reducible exact Below.refl _ _) | (with_reducible assumption) | (with_reducible refine below_alloc ?_ _) | (with_reducible refine below_drew ?_) | (with_reducible refine below_drewN ?_ _) | (with_reducible refine below_step ?_ (by with_reducible assumption))))⟩
  · have d0 : (kAll o s xs == 0) = false := by simpa using h0
    have hok := kAll_ok h0
    have q1 := nOk_sq hok
    have q2 := nOk_st hok
    obtain ⟨p1, p2⟩ := q1
    obtain ⟨p3, p4⟩ := q2
    have hnv : nVars o s = o * o + o + (o + 1) * s := by unfold nVars; rw [if_pos hok]; simp [nAhead]
    have p5 : 0 ≤ o ∧ o ≤ 64 := by unfold nOk at hok; omega
    obtain ⟨p5, p6⟩ := p5
    have p7 : 1 ≤ s ∧ s ≤ 32 := by unfold nOk at hok; omega
    obtain ⟨p7, p8⟩ := p7
    by_cases h1 : 500000 < kAll o s xs
    · have HF : Hid (kFits o s xs = 3) := Lib.hid (by unfold kFits; rw [if_neg h0, if_pos (Or.inl h1)])
      have d1 : decide (500000 < kAll o s xs) = true := decide_eq_true h1
      clear h0 h1 hnv
      go_enter Try.func72, Try.ntmps72
      go_wp2_with (go_at_call 70; refine (rcnt_All _ _ _ _ _ xs _ HR.out).mono ?_; rintro e w' ⟨rfl, hbA⟩)
      go_returns
      exact ⟨by rw [HF.out]; rfl, by (repeat (first | (with_reducible exact Below.refl _ _) | (with_reducible assumption) | (with_reducible refine below_alloc ?_ _) | (with_reducible refine below_drew ?_) | (with_reducible refine below_drewN ?_ _) | (with_reducible refine below_step ?_ (by with_reducible assumption))))⟩
    · have d1 : decide (500000 < kAll o s xs) = false := decide_eq_false h1
      by_cases h2 : 900 < nVars o s
      · have HF : Hid (kFits o s xs = 3) := Lib.hid (by unfold kFits; rw [if_neg h0, if_pos (Or.inr h2)])
        rw [hnv] at h2
        have d2 : decide (900 < o * o + o + (o + 1) * s) = true := decide_eq_true h2
        clear h0 h1 hnv h2
        go_enter Try.func72, Try.ntmps72
        go_wp2_with (go_at_call 70; refine (rcnt_All _ _ _ _ _ xs _ HR.out).mono ?_; rintro e w' ⟨rfl, hbA⟩)
        go_returns
        exact ⟨by rw [HF.out]; rfl, by (repeat (first | (with_reducible exact Below.refl _ _) | (with_reducible assumption) | (with_reducible refine below_alloc ?_ _) | (with_reducible refine below_drew ?_) | (with_reducible refine below_drewN ?_ _) | (with_reducible refine below_step ?_ (by with_reducible assumption))))⟩
      · have HF : Hid (kFits o s xs = 0) := Lib.hid (by unfold kFits; rw [if_neg h0, if_neg (fun h => h.elim h1 h2)])
        rw [hnv] at h2
        have d2 : decide (900 < o * o + o + (o + 1) * s) = false := decide_eq_false h2
        clear h0 h1 hnv h2
        go_enter Try.func72, Try.ntmps72
        go_wp2_with (go_at_call 70; refine (rcnt_All _ _ _ _ _ xs _ HR.out).mono ?_; rintro e w' ⟨rfl, hbA⟩)
        go_returns
        exact ⟨by rw [HF.out]; rfl, by (repeat (first | (with_reducible exact Below.refl _ _) | (with_reducible assumption) | (with_reducible refine below_alloc ?_ _) | (with_reducible refine below_drew ?_) | (with_reducible refine below_drewN ?_ _) | (with_reducible refine below_step ?_ (by with_reducible assumption))))⟩
end Go.Proofs.Ythfcbjfeepindaa
