/- The contracts of package numbering: what each call answers; nothing that was there changes. -/
import Derived.Test.YthfcbjfeepindaaRows
import Derived.WalkKit
import Derived.WalkSpells
import Derived.WalkLawsBesides
import Derived.BigGuardPart
import Derived.Handy
import Derived.Deep.QuietTactic
import Derived.BigQuiet
import Derived.Deep.RegionHeld3
import Derived.Lib.Hide
import Derived.Test.YthfcbjfeepindaaMem
import Derived.Test.YthfcbjfeepindaaNumP
namespace Go.Proofs.Ythfcbjfeepindaa
open Go.RowKit
set_option linter.unusedVariables false

theorem num_Check (o s : Int) (w : World) : Calls Try.prog 25 #[.agg #[.int .i64 o, .int .i64 s]] w fun e w' => e = .returned (.int .i64 (nCheck o s)) ∧ Below w.heap.size w w' := by
  go_enter Try.func25, Try.ntmps25
  go_wp2
  all_goals (go_returns; refine ⟨ret_int ?_, by (repeat (first | (with_reducible exact Below.refl _ _) | (with_reducible assumption) | (with_reducible refine below_alloc ?_ _) | (with_reducible refine below_drew ?_) | (with_reducible refine below_drewN ?_ _) | (with_reducible refine below_step ?_ (by with_reducible assumption))))⟩; first | rw [nCheck_yes (by unfold nOk; omega)] | rw [nCheck_no (by unfold nOk; omega)])

theorem num_kind (o s k : Int) (w : World) (hok : nOk o s) : Calls Try.prog 77 #[.agg #[.int .i64 o, .int .i64 s], .int .i64 k] w fun e w' => e = .returned (.tuple #[.int .i64 (nA o k), .int .i64 (nB o s k)]) ∧ Below w.heap.size w w' := by
  unfold nOk at hok
  obtain ⟨h1, h2, h3, h4⟩ := hok
  by_cases k1 : k = 1
  · subst k1
    have e1 : nA o 1 = o := rfl
    have e2 : nB o s 1 = o := rfl
    rw [e1, e2]; clear e1 e2
    go_enter Try.func77, Try.ntmps77
    go_wp2
    go_quiet (fail)
    go_wp2
    go_returns
    exact ⟨rfl, by (repeat (first | (with_reducible exact Below.refl _ _) | (with_reducible assumption) | (with_reducible refine below_alloc ?_ _) | (with_reducible refine below_drew ?_) | (with_reducible refine below_drewN ?_ _) | (with_reducible refine below_step ?_ (by with_reducible assumption))))⟩
  · by_cases k2 : k = 2
    · subst k2
      have e1 : nA o 2 = o := rfl
      have e2 : nB o s 2 = 1 := rfl
      rw [e1, e2]; clear e1 e2
      go_enter Try.func77, Try.ntmps77
      go_wp2
      go_returns
      exact ⟨rfl, by (repeat (first | (with_reducible exact Below.refl _ _) | (with_reducible assumption) | (with_reducible refine below_alloc ?_ _) | (with_reducible refine below_drew ?_) | (with_reducible refine below_drewN ?_ _) | (with_reducible refine below_step ?_ (by with_reducible assumption))))⟩
    · by_cases k3 : k = 3
      · subst k3
        have e1 : nA o 3 = o + 1 := rfl
        have e2 : nB o s 3 = s := rfl
        have e3 : IntKind.i64.wrap (o + 1) = o + 1 := IntWalk.i64_in _ (by omega)
        rw [e1, e2]; clear e1 e2
        go_enter Try.func77, Try.ntmps77
        go_wp2
        go_quiet (fail)
        go_wp2
        go_returns
        exact ⟨rfl, by (repeat (first | (with_reducible exact Below.refl _ _) | (with_reducible assumption) | (with_reducible refine below_alloc ?_ _) | (with_reducible refine below_drew ?_) | (with_reducible refine below_drewN ?_ _) | (with_reducible refine below_step ?_ (by with_reducible assumption))))⟩
      · have e1 : nA o k = 0 := by unfold nA; rw [if_neg k1, if_neg k2, if_neg k3]
        have e2 : nB o s k = 0 := by unfold nB; rw [if_neg k1, if_neg k2, if_neg k3]
        have f1 : (k == 1) = false := by simpa using k1
        have f2 : (k == 2) = false := by simpa using k2
        have f3 : (k == 3) = false := by simpa using k3
        rw [e1, e2]; clear e1 e2 k1 k2 k3
        go_enter Try.func77, Try.ntmps77
        go_wp2
        go_returns
        exact ⟨rfl, by (repeat (first | (with_reducible exact Below.refl _ _) | (with_reducible assumption) | (with_reducible refine below_alloc ?_ _) | (with_reducible refine below_drew ?_) | (with_reducible refine below_drewN ?_ _) | (with_reducible refine below_step ?_ (by with_reducible assumption))))⟩

theorem num_ahead (o s : Int) (k : Int) (w : World) (hok : nOk o s) (h1 : 1 ≤ k) (h4 : k ≤ 4) : Calls Try.prog 76 #[.agg #[.int .i64 o, .int .i64 s], .int .i64 k] w fun e w' => e = .returned (.int .i64 (nAhead o s k)) ∧ Below w.heap.size w w' := by
  have hA := nA_bd hok
  have hB := nB_bd hok
  have HA := Lib.hid hA; clear hA
  have HB := Lib.hid hB; clear hB
  have HN := Lib.hid (nAhead_bd hok)
  have HOK := Lib.hid hok; clear hok
  have hb0 : Below w.heap.size w (w.alloc (.cells #[.int .i64 o, .int .i64 s] 23)) := (Below.refl _ _).alloc (Nat.le_refl _) _
  generalize hw1 : w.alloc (.cells #[.int .i64 o, .int .i64 s] 23) = w1 at hb0
  have hc0 : w1.cell? ⟨w.heap.size, 0, none⟩ = some (.int .i64 o) := by subst hw1; simp
  have hc1 : w1.cell? ⟨w.heap.size, 1, none⟩ = some (.int .i64 s) := by subst hw1; simp
  have HW := Lib.hid hw1
  have HC0 := Lib.hid hc0; clear hc0
  have HC1 := Lib.hid hc1; clear hc1
  clear hw1
  go_enter Try.func76, Try.ntmps76
  go_wp2
  rw [HW.out]
  go_loopw [5, 6] (fun n i wr => ∃ j : Nat, 1 ≤ j ∧ (j : Int) ≤ k ∧ i = .int .i64 j ∧ n = .int .i64 (nAhead o s j) ∧ Below w1.heap.size w1 wr) (fun _ i _ => (4 - intOf i).toNat)
  case atStart => exact ⟨1, by omega, by omega, rfl, by simp [nAhead], Below.refl _ _⟩
  case round =>
    obtain ⟨j, hj1, hjk, rfl, rfl, hb⟩ := hrel
    by_cases hlt : (j : Int) < k
    · have b1 := HA.out j
      have b2 := HB.out j
      have b3 := HN.out j
      have b4 := mul_bd b1.1 b1.2 b2.1 b2.2
      have hc0 := cell_later hb HC0.out
      have hc1 := cell_later hb HC1.out
      have HS := Lib.hid (nAhead_succ (o := o) (s := s) (k := j) (by omega) (by omega))
      go_wp2_with (go_at_call 77; refine (num_kind _ _ _ _ HOK.out).mono ?_; rintro e w' ⟨rfl, hb2⟩)
      go_roundw
      case rel => exact ⟨j + 1, by omega, by omega, by go_num, by rw [show ((j + 1 : Nat) : Int) = (j : Int) + 1 by omega, HS.out], below_step hb hb2⟩
      case measure => simp [intOf]; omega
    · have HK := Lib.hid (show k = j by omega)
      go_wp2
      go_ret
      exact ⟨ret_int (by rw [HK.out]), below_step hb0 hb⟩

theorem num_Vars (o s : Int) (w : World) : Calls Try.prog 27 #[.agg #[.int .i64 o, .int .i64 s]] w fun e w' => e = .returned (.int .i64 (nVars o s)) ∧ Below w.heap.size w w' := by
  by_cases hok : nOk o s
  · have e : nVars o s = nAhead o s 4 := by unfold nVars; rw [if_pos hok]
    have hk : (nCheck o s != 0) = false := by rw [nCheck_yes hok]; rfl
    rw [e]; clear e
    have HOK := Lib.hid hok; clear hok
    go_enter Try.func27, Try.ntmps27
    go_wp2_with fail
    refine (num_Check _ _ _).mono ?_
    rintro e w1 ⟨rfl, hb1⟩
    have hc0 : w1.cell? ⟨w.heap.size, 0, none⟩ = some (.int .i64 o) := cell_later hb1 (by simp)
    have hc1 : w1.cell? ⟨w.heap.size, 1, none⟩ = some (.int .i64 s) := cell_later hb1 (by simp)
    go_wp2_with (go_at_call 76; refine (num_ahead _ _ _ _ HOK.out (by omega) (by omega)).mono ?_; rintro e w' ⟨rfl, hb2⟩)
    go_returns
    exact ⟨rfl, by (repeat (first | (with_reducible exact Below.refl _ _) | (with_reducible assumption) | (with_reducible refine below_alloc ?_ _) | (with_reducible refine below_drew ?_) | (with_reducible refine below_drewN ?_ _) | (with_reducible refine below_step ?_ (by with_reducible assumption))))⟩
  · have e : nVars o s = 0 := by unfold nVars; rw [if_neg hok]
    have hk : (nCheck o s != 0) = true := by rw [nCheck_no hok]; rfl
    rw [e]; clear e hok
    go_enter Try.func27, Try.ntmps27
    go_wp2_with (go_at_call 25; refine (num_Check _ _ _).mono ?_; rintro e w' ⟨rfl, hb1⟩)
    go_returns
    exact ⟨rfl, by (repeat (first | (with_reducible exact Below.refl _ _) | (with_reducible assumption) | (with_reducible refine below_alloc ?_ _) | (with_reducible refine below_drew ?_) | (with_reducible refine below_drewN ?_ _) | (with_reducible refine below_step ?_ (by with_reducible assumption))))⟩
end Go.Proofs.Ythfcbjfeepindaa
