/- Layer 36: CountFits is true for every input. -/
import Derived.Test.YthfcbjfeepindaaCntD
import Derived.Test.YthfcbjfeepindaaCntE
import Derived.Test.YthfcbjfeepindaaOpeL
namespace Go.Proofs.Ythfcbjfeepindaa
open Go.RowKit
set_option linter.unusedVariables false
set_option linter.unusedSimpArgs false

set_option maxRecDepth 100000 in
set_option maxHeartbeats 20000000 in
theorem countFits_walk (w : World) (o s : Int) (wo : (Lit.int .i64 o).wf = true) (ws : (Lit.int .i64 s).wf = true) (a : Option Addr) (len cap : Nat) (hS : StructRow w 5 a len cap) :
    Calls Try.prog 20 #[.agg #[.int .i64 o, .int .i64 s], .slice a len cap] w fun e w' => e = .returned (.bool true) ∧ Below w.heap.size w w' := by
  clear wo ws
  have hb1 : Below w.heap.size w (w.alloc (.cells #[.int .i64 o, .int .i64 s] 23)) := by (repeat (first | (with_reducible exact Below.refl _ _) | (with_reducible assumption) | (with_reducible refine below_alloc ?_ _) | (with_reducible refine below_drew ?_) | (with_reducible refine below_drewN ?_ _) | (with_reducible refine below_step ?_ (by with_reducible assumption))))
  by_cases hbig : 70 < len
  · have d1 : decide (70 < (len : Int)) = true := by simp; omega
    have d2 : decide (70 < len) = true := by simpa using hbig
    clear hS hbig
    go_enter Try.func20, Try.ntmps20
    go_wp2_with (go_at_call 68; refine (law36_awake _).mono ?_; rintro e w' ⟨rfl, hbAw⟩)
    go_returns
    exact ⟨rfl, by (repeat (first | (with_reducible exact Below.refl _ _) | (with_reducible assumption) | (with_reducible refine below_alloc ?_ _) | (with_reducible refine below_drew ?_) | (with_reducible refine below_drewN ?_ _) | (with_reducible refine below_step ?_ (by with_reducible assumption))))⟩
  have d1 : decide (70 < (len : Int)) = false := by simp; omega
  have d2 : decide (70 < len) = false := by simpa using hbig
  have hcap := hS.1
  obtain ⟨xs, hr⟩ := hS.ops (by omega)
  have hxl := hr.1
  have HR := Lib.hid (hr.later hb1)
  have hs1 := Blk.made w #[.int .i64 o, .int .i64 s] 23
  generalize hw1 : w.alloc (.cells #[.int .i64 o, .int .i64 s] 23) = W1 at *
  have HW1 := Lib.hid hw1; clear hw1
  have c0 := hs1.cell 0; have c1 := hs1.cell 1
  simp at c0 c1
  have hl70 : len ≤ 70 := by omega
  clear hs1 hS hbig hr
  by_cases h0 : kFits o s xs = 0
  rotate_left
  · have e0 : (kFits o s xs != 0) = true := by simpa using h0
    clear h0 hxl
    go_enter Try.func20, Try.ntmps20
    go_wp2_with fail
    rw [HW1.out]
    go_wp2_with (first | (go_at_call 71; refine (cnt_Fits _ _ _ _ _ xs _ HR.out).mono ?_; rintro e w' ⟨rfl, hbb⟩) | (go_at_call 68; refine (law36_awake _).mono ?_; rintro e w' ⟨rfl, hbAw⟩))
    go_returns
    exact ⟨rfl, by (repeat (first | (with_reducible exact Below.refl _ _) | (with_reducible assumption) | (with_reducible refine below_alloc ?_ _) | (with_reducible refine below_drew ?_) | (with_reducible refine below_drewN ?_ _) | (with_reducible refine below_step ?_ (by with_reducible assumption))))⟩
  have e0 : (kFits o s xs != 0) = false := by simpa using h0
  obtain ⟨n, S, rfl, rfl, _, hok, hn, _, _⟩ := kFits_zero h0
  have hS1 : 1 ≤ S ∧ S ≤ 32 ∧ n ≤ 64 := by unfold nOk at hok; omega
  have HOP := Lib.hid (fun (h : (0 : Int) < n) => kFits_oper h0 h)
  have HST := Lib.hid (fun (h : (1 : Int) < S) => kFits_state h0 h)
  have hln : len = n := by omega
  subst hln
  clear h0 hok
  have HXL := Lib.hid hxl
  clear hxl hn
  rcases Nat.eq_zero_or_pos len with hz | hz
  · have z1 : decide (0 < (len : Int)) = false := by simp; omega
    have z2 : decide (0 < len) = false := by simp; omega
    clear hz
    go_enter Try.func20, Try.ntmps20
    go_wp2_with fail
    rw [HW1.out]
    go_wp2_with (first | (go_at_call 71; refine (cnt_Fits _ _ _ _ _ xs _ HR.out).mono ?_; rintro e w2 ⟨rfl, hb2⟩; have c0 := cell_later hb2 c0; have c1 := cell_later hb2 c1))
    go_quiet (fail)
    by_cases hS2 : S = 1
    · have g1 : decide ((S : Int) ≤ 1) = true := by simp; omega
      have g2 : decide (S ≤ 1) = true := by simp; omega
      clear hS2
      go_wp2_with (go_at_call 68; refine (law36_awake _).mono ?_; rintro e w' ⟨rfl, hbAw⟩)
      go_returns
      exact ⟨rfl, by (repeat (first | (with_reducible exact Below.refl _ _) | (with_reducible assumption) | (with_reducible refine below_alloc ?_ _) | (with_reducible refine below_drew ?_) | (with_reducible refine below_drewN ?_ _) | (with_reducible refine below_step ?_ (by with_reducible assumption))))⟩
    · have g1 : decide ((S : Int) ≤ 1) = false := by simp; omega
      have g2 : decide (S ≤ 1) = false := by simp; omega
      have k1 : (1 : Int) ≤ (S : Int) := by omega
      have HV := Lib.hid (HST.out (by omega))
      clear hS2
      go_wp2_with (first | (go_at_call 71; refine (cnt_Fits (len : Int) ((S : Int) - 1) _ _ _ xs _ (HR.out.later (by (repeat (first | (with_reducible exact Below.refl _ _) | (with_reducible assumption) | (with_reducible refine below_alloc ?_ _) | (with_reducible refine below_drew ?_) | (with_reducible refine below_drewN ?_ _) | (with_reducible refine below_step ?_ (by with_reducible assumption))))))).mono ?_; rintro e w' ⟨rfl, hbb⟩; rw [HV.out]) | (go_at_call 68; refine (law36_awake _).mono ?_; rintro e w' ⟨rfl, hbAw⟩))
      go_returns
      exact ⟨rfl, by (repeat (first | (with_reducible exact Below.refl _ _) | (with_reducible assumption) | (with_reducible refine below_alloc ?_ _) | (with_reducible refine below_drew ?_) | (with_reducible refine below_drewN ?_ _) | (with_reducible refine below_step ?_ (by with_reducible assumption))))⟩
  · have z1 : decide (0 < (len : Int)) = true := by simp; omega
    have z2 : decide (0 < len) = true := by simpa using hz
    obtain ⟨b, off, rfl, _⟩ := HR.out.2.2 hz
    have hcut := HR.out.cut (n := len - 1) (by omega)
    have HCUT := Lib.hid hcut
    have HV := HOP.out (by omega)
    rw [HXL.out] at HV
    have HVH := Lib.hid HV
    have n1 : IntKind.i64.wrap ((len : Int) - 1) = (len : Int) - 1 := IntWalk.i64_in _ ⟨by omega, by omega⟩
    have n2 : (0 : Int) ≤ (len : Int) - 1 := by omega
    have n3 : (len : Int) - 1 ≤ (cap : Int) := by omega
    have n4 : ((len : Int) - 1).toNat = len - 1 := by omega
    have n5 : (1 : Int) ≤ (len : Int) := by omega
    clear hz HV hcut
    go_enter Try.func20, Try.ntmps20
    go_wp2_with fail
    rw [HW1.out]
    go_wp2_with (first | (go_at_call 71; refine (cnt_Fits _ _ _ _ _ xs _ HR.out).mono ?_; rintro e w2 ⟨rfl, hb2⟩; have c0 := cell_later hb2 c0; have c1 := cell_later hb2 c1))
    go_region_held3 (fun wx => Below w2.heap.size w2 wx ∧ wx.cell? ⟨w.heap.size, 0, none⟩ = some (.int .i64 len) ∧ wx.cell? ⟨w.heap.size, 1, none⟩ = some (.int .i64 S)) ((refine ⟨?_, ?_, ?_⟩; (repeat (first | (with_reducible exact Below.refl _ _) | (with_reducible assumption) | (with_reducible refine below_alloc ?_ _) | (with_reducible refine below_drew ?_) | (with_reducible refine below_drewN ?_ _) | (with_reducible refine below_step ?_ (by with_reducible assumption)))); all_goals (refine cell_later (w := w2) ?_ ?_ <;> (repeat (first | (with_reducible exact Below.refl _ _) | (with_reducible assumption) | (with_reducible refine below_alloc ?_ _) | (with_reducible refine below_drew ?_) | (with_reducible refine below_drewN ?_ _) | (with_reducible refine below_step ?_ (by with_reducible assumption)))))))
      (first | (go_at_call 71; refine (cnt_Fits ((len : Int) - 1) S _ (len - 1) _ (xs.take (len - 1)) _ (HCUT.out.later (by (repeat (first | (with_reducible exact Below.refl _ _) | (with_reducible assumption) | (with_reducible refine below_alloc ?_ _) | (with_reducible refine below_drew ?_) | (with_reducible refine below_drewN ?_ _) | (with_reducible refine below_step ?_ (by with_reducible assumption))))))).mono ?_; rintro e w' ⟨rfl, hbb⟩; rw [HVH.out]))
    all_goals
      rename_i hHeld
      obtain ⟨hB3, d0, d1⟩ := hHeld
      clear n1 n2 n3 n4 n5
      by_cases hS2 : S = 1
      · have g1 : decide ((S : Int) ≤ 1) = true := by simp; omega
        have g2 : decide (S ≤ 1) = true := by simp; omega
        clear hS2
        go_wp2_with (go_at_call 68; refine (law36_awake _).mono ?_; rintro e w' ⟨rfl, hbAw⟩)
        go_returns
        exact ⟨rfl, by (repeat (first | (with_reducible exact Below.refl _ _) | (with_reducible assumption) | (with_reducible refine below_alloc ?_ _) | (with_reducible refine below_drew ?_) | (with_reducible refine below_drewN ?_ _) | (with_reducible refine below_step ?_ (by with_reducible assumption))))⟩
      · have g1 : decide ((S : Int) ≤ 1) = false := by simp; omega
        have g2 : decide (S ≤ 1) = false := by simp; omega
        have k1 : (1 : Int) ≤ (S : Int) := by omega
        have HV := Lib.hid (HST.out (by omega))
        clear hS2
        go_wp2_with (first | (go_at_call 71; refine (cnt_Fits (len : Int) ((S : Int) - 1) _ _ _ xs _ (HR.out.later (by (repeat (first | (with_reducible exact Below.refl _ _) | (with_reducible assumption) | (with_reducible refine below_alloc ?_ _) | (with_reducible refine below_drew ?_) | (with_reducible refine below_drewN ?_ _) | (with_reducible refine below_step ?_ (by with_reducible assumption))))))).mono ?_; rintro e w' ⟨rfl, hbb⟩; rw [HV.out]) | (go_at_call 68; refine (law36_awake _).mono ?_; rintro e w' ⟨rfl, hbAw⟩))
        go_returns
        exact ⟨rfl, by (repeat (first | (with_reducible exact Below.refl _ _) | (with_reducible assumption) | (with_reducible refine below_alloc ?_ _) | (with_reducible refine below_drew ?_) | (with_reducible refine below_drewN ?_ _) | (with_reducible refine below_step ?_ (by with_reducible assumption))))⟩
end Go.Proofs.Ythfcbjfeepindaa
