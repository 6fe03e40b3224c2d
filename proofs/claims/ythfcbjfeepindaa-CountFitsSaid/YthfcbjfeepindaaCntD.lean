/- The answers that layer 36's statements ask: awake. -/
import Derived.Test.YthfcbjfeepindaaCntC
namespace Go.Proofs.Ythfcbjfeepindaa
open Go.RowKit
set_option linter.unusedVariables false
set_option linter.unusedSimpArgs false

def xs3 : List Op5 := [⟨1, 0, 0, 1, 0⟩, ⟨1, 0, 2, 3, 0⟩, ⟨2, 0, 4, -1, -1⟩]
def xs2 : List Op5 := [⟨1, 0, 0, 1, 0⟩, ⟨1, 0, 2, 3, 0⟩]
theorem OpRow.nil (w : World) : OpRow w none 0 [] := ⟨rfl, Nat.zero_le _, fun h => by omega⟩
theorem OpRow.cut {w : World} {a : Option Addr} {len n : Nat} {xs : List Op5} (h : OpRow w a len xs) (hn : n ≤ len) : OpRow w a n (xs.take n) := by
  refine ⟨by rw [List.length_take, h.1]; omega, by have := h.2.1; omega, fun hp => ?_⟩
  obtain ⟨b, off, ha, hc⟩ := h.2.2 (by omega)
  refine ⟨b, off, ha, fun i hi => ?_⟩
  have := hc i (by omega)
  rwa [show oAt (xs.take n) i = oAt xs i by simp [oAt, List.getD, hi]]

set_option maxRecDepth 100000 in
set_option maxHeartbeats 20000000 in
theorem law36_awake (w : World) : Calls Try.prog 68 #[] w fun e w' => e = .returned (.bool true) ∧ Below w.heap.size w w' := by
  have V1 := Lib.hid (show kP 3 2 = 21 by decide +kernel)
  have V2 := Lib.hid (show kT 3 2 3 = 9 by decide +kernel)
  have V3 := Lib.hid (show kS 3 2 = 9 by decide +kernel)
  have V4 := Lib.hid (show kM 3 2 2 = 26 by decide +kernel)
  have V5 := Lib.hid (show kAll 3 2 xs3 = 65 by decide +kernel)
  have V6 := Lib.hid (show kFits 3 2 xs3 = 0 by decide +kernel)
  have V7 := Lib.hid (show kAll 3 2 xs2 = 0 by decide +kernel)
  have V8 := Lib.hid (show kFits 3 2 [] = 2 by decide +kernel)
  have V9 := Lib.hid (show kAll 0 1 [] = 2 by decide +kernel)
  have V10 := Lib.hid (show kM 3 2 4 = 0 by decide +kernel)
  have V11 := Lib.hid (show kT 3 2 (-1) = 0 by decide +kernel)
  have hb0 : Below w.heap.size w ((w.alloc (.cells #[.int .i64 3, .int .i64 2] 23)).alloc (.cells #[.int .i64 1, .int .i64 0, .int .i64 0, .int .i64 1, .int .i64 0, .int .i64 1, .int .i64 0, .int .i64 2, .int .i64 3, .int .i64 0, .int .i64 2, .int .i64 0, .int .i64 4, .int .i64 (-1), .int .i64 (-1)] 111)) := by (repeat (first | (with_reducible exact Below.refl _ _) | (with_reducible assumption) | (with_reducible refine below_alloc ?_ _) | (with_reducible refine below_drew ?_) | (with_reducible refine below_drewN ?_ _) | (with_reducible refine below_step ?_ (by with_reducible assumption))))
  have hs0 : Blk ((w.alloc (.cells #[.int .i64 3, .int .i64 2] 23)).alloc (.cells #[.int .i64 1, .int .i64 0, .int .i64 0, .int .i64 1, .int .i64 0, .int .i64 1, .int .i64 0, .int .i64 2, .int .i64 3, .int .i64 0, .int .i64 2, .int .i64 0, .int .i64 4, .int .i64 (-1), .int .i64 (-1)] 111)) w.heap.size #[.int .i64 3, .int .i64 2] 23 := (Blk.made _ _ _).later (by (repeat (first | (with_reducible exact Below.refl _ _) | (with_reducible assumption) | (with_reducible refine below_alloc ?_ _) | (with_reducible refine below_drew ?_) | (with_reducible refine below_drewN ?_ _) | (with_reducible refine below_step ?_ (by with_reducible assumption)))))
  have hs1 : Blk ((w.alloc (.cells #[.int .i64 3, .int .i64 2] 23)).alloc (.cells #[.int .i64 1, .int .i64 0, .int .i64 0, .int .i64 1, .int .i64 0, .int .i64 1, .int .i64 0, .int .i64 2, .int .i64 3, .int .i64 0, .int .i64 2, .int .i64 0, .int .i64 4, .int .i64 (-1), .int .i64 (-1)] 111)) (w.heap.size + 1) #[.int .i64 1, .int .i64 0, .int .i64 0, .int .i64 1, .int .i64 0, .int .i64 1, .int .i64 0, .int .i64 2, .int .i64 3, .int .i64 0, .int .i64 2, .int .i64 0, .int .i64 4, .int .i64 (-1), .int .i64 (-1)] 111 := Blk.at _ _ _ (by simp)
  generalize hw0 : (w.alloc (.cells #[.int .i64 3, .int .i64 2] 23)).alloc (.cells #[.int .i64 1, .int .i64 0, .int .i64 0, .int .i64 1, .int .i64 0, .int .i64 1, .int .i64 0, .int .i64 2, .int .i64 3, .int .i64 0, .int .i64 2, .int .i64 0, .int .i64 4, .int .i64 (-1), .int .i64 (-1)] 111) = W0 at *
  have HW0 := Lib.hid hw0; clear hw0
  have c0 := hs0.cell 0; have c1 := hs0.cell 1
  simp at c0 c1
  have hrow : OpRow W0 (some ⟨w.heap.size + 1, 0, none⟩) 3 xs3 := by
    refine ⟨rfl, by decide, fun _ => ⟨_, _, rfl, fun i hi => ?_⟩⟩
    rcases i with _ | _ | _ | i
    · exact ⟨by rw [hs1.cell]; rfl, by rw [hs1.cell]; rfl, by rw [hs1.cell]; rfl, by rw [hs1.cell]; rfl, by rw [hs1.cell]; rfl⟩
    · exact ⟨by rw [hs1.cell]; rfl, by rw [hs1.cell]; rfl, by rw [hs1.cell]; rfl, by rw [hs1.cell]; rfl, by rw [hs1.cell]; rfl⟩
    · exact ⟨by rw [hs1.cell]; rfl, by rw [hs1.cell]; rfl, by rw [hs1.cell]; rfl, by rw [hs1.cell]; rfl, by rw [hs1.cell]; rfl⟩
    · omega
  have HROW := Lib.hid hrow
  have HROW2 : Hid (OpRow W0 (some ⟨w.heap.size + 1, 0, none⟩) 2 xs2) := Lib.hid (hrow.cut (n := 2) (by omega))
  clear hs0 hs1 hrow
  go_enter Try.func68, Try.ntmps68
  go_wp2_with fail
  rw [HW0.out]
  go_region_held3 (fun wx => Below W0.heap.size W0 wx ∧ wx.cell? ⟨w.heap.size, 0, none⟩ = some (.int .i64 3) ∧ wx.cell? ⟨w.heap.size, 1, none⟩ = some (.int .i64 2)) ((refine ⟨?_, ?_, ?_⟩; (repeat (first | (with_reducible exact Below.refl _ _) | (with_reducible assumption) | (with_reducible refine below_alloc ?_ _) | (with_reducible refine below_drew ?_) | (with_reducible refine below_drewN ?_ _) | (with_reducible refine below_step ?_ (by with_reducible assumption)))); all_goals (refine cell_later (w := W0) ?_ ?_ <;> (repeat (first | (with_reducible exact Below.refl _ _) | (with_reducible assumption) | (with_reducible refine below_alloc ?_ _) | (with_reducible refine below_drew ?_) | (with_reducible refine below_drewN ?_ _) | (with_reducible refine below_step ?_ (by with_reducible assumption)))))))
    (first | (go_at_call 60; refine (cnt_P 3 2 _).mono ?_; rintro e w' ⟨rfl, hbb⟩; rw [V1.out]) | (go_at_call 62; ((with_reducible refine (cnt_T 3 2 3 _).mono ?_)); rintro e w' ⟨rfl, hbb⟩; rw [V2.out]) | (go_at_call 62; ((with_reducible refine (cnt_T 3 2 (-1) _).mono ?_)); rintro e w' ⟨rfl, hbb⟩; rw [V11.out]) | (go_at_call 64; refine (cnt_S 3 2 _).mono ?_; rintro e w' ⟨rfl, hbb⟩; rw [V3.out]) | (go_at_call 66; ((with_reducible refine (cnt_M 3 2 2 _).mono ?_)); rintro e w' ⟨rfl, hbb⟩; rw [V4.out]) | (go_at_call 66; ((with_reducible refine (cnt_M 3 2 4 _).mono ?_)); rintro e w' ⟨rfl, hbb⟩; rw [V10.out]) | (go_at_call 69; ((with_reducible refine (cnt_All 3 2 _ 3 3 xs3 _ (HROW.out.later (by (repeat (first | (with_reducible exact Below.refl _ _) | (with_reducible assumption) | (with_reducible refine below_alloc ?_ _) | (with_reducible refine below_drew ?_) | (with_reducible refine below_drewN ?_ _) | (with_reducible refine below_step ?_ (by with_reducible assumption))))))).mono ?_)); rintro e w' ⟨rfl, hbb⟩; rw [V5.out]) | (go_at_call 69; ((with_reducible refine (cnt_All 3 2 _ 2 3 xs2 _ (HROW2.out.later (by (repeat (first | (with_reducible exact Below.refl _ _) | (with_reducible assumption) | (with_reducible refine below_alloc ?_ _) | (with_reducible refine below_drew ?_) | (with_reducible refine below_drewN ?_ _) | (with_reducible refine below_step ?_ (by with_reducible assumption))))))).mono ?_)); rintro e w' ⟨rfl, hbb⟩; rw [V7.out]) | (go_at_call 69; ((with_reducible refine (cnt_All 0 1 _ 0 0 [] _ (OpRow.nil _)).mono ?_)); rintro e w' ⟨rfl, hbb⟩; rw [V9.out]) | (go_at_call 71; ((with_reducible refine (cnt_Fits 3 2 _ 3 3 xs3 _ (HROW.out.later (by (repeat (first | (with_reducible exact Below.refl _ _) | (with_reducible assumption) | (with_reducible refine below_alloc ?_ _) | (with_reducible refine below_drew ?_) | (with_reducible refine below_drewN ?_ _) | (with_reducible refine below_step ?_ (by with_reducible assumption))))))).mono ?_)); rintro e w' ⟨rfl, hbb⟩; rw [V6.out]) | (go_at_call 71; ((with_reducible refine (cnt_Fits 3 2 _ 0 0 [] _ (OpRow.nil _)).mono ?_)); rintro e w' ⟨rfl, hbb⟩; rw [V8.out]))
  all_goals
    rename_i hHeld
    have hBB := hHeld.1
    clear hHeld
    go_wp2
    go_returns
    exact ⟨rfl, by (repeat (first | (with_reducible exact Below.refl _ _) | (with_reducible assumption) | (with_reducible refine below_alloc ?_ _) | (with_reducible refine below_drew ?_) | (with_reducible refine below_drewN ?_ _) | (with_reducible refine below_step ?_ (by with_reducible assumption))))⟩
end Go.Proofs.Ythfcbjfeepindaa
