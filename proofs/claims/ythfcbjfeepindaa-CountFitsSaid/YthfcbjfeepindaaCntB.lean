/- The contracts of count.All and Fits, and of the reference's. -/
import Derived.Test.YthfcbjfeepindaaCntA
import Derived.Test.YthfcbjfeepindaaOpeT
namespace Go.Proofs.Ythfcbjfeepindaa
open Go.RowKit
set_option linter.unusedVariables false
set_option linter.unusedSimpArgs false

def oOk (xs : List Op5) : Prop := xs.length ≤ 5000 ∧ oGood xs xs.length
instance (xs : List Op5) : Decidable (oOk xs) := by unfold oOk; infer_instance
theorem OChk.zero {xs : List Op5} {a c : Int} (h : OChk xs a c) : c = 0 ↔ oOk xs := by
  rcases h with ⟨h1, h2, h3⟩ | ⟨h1, i, h2, h3, h4, h5, h6⟩ | ⟨h1, h2, h3, h4⟩
  · exact ⟨fun h => by omega, fun h => absurd h.1 (by omega)⟩
  · exact ⟨fun h => absurd (h6.symm.trans h) h4, fun h => absurd (h.2 i h2) h4⟩
  · exact ⟨fun _ => ⟨h1, h2⟩, fun _ => h4⟩
def kAll (o s : Int) (xs : List Op5) : Int := if oOk xs ∧ nOk o s ∧ (xs.length : Int) = o then kP o s + kT o s (oPairs xs).length + kS o s + kM o s ((xs.length : Int) - (oPend xs).length) else 0
theorem kAll_no {o s : Int} {xs : List Op5} (h : ¬ (oOk xs ∧ nOk o s ∧ (xs.length : Int) = o)) : kAll o s xs = 0 := by unfold kAll; rw [if_neg h]

def LenPost (n : Nat) (w : World) (e : Ending) (w' : World) : Prop := ∃ a cap, e = .returned (.slice a n cap) ∧ Below w.heap.size w w'
theorem ope_PairsL (a : Option Addr) (len cap : Nat) (xs : List Op5) (w : World) (hr : OpRow w a len xs) (hlen : len ≤ 5000) : Calls Try.prog 52 #[.slice a len cap] w (LenPost (oPairs xs).length w) := by
  refine (ope_Pairs a len cap xs w hr hlen).mono ?_
  rintro e w' ⟨v, rfl, hv, hb⟩
  obtain ⟨b, c, rfl, _⟩ := own_read hv
  exact ⟨b, c, rfl, hb⟩
theorem ref_PairsL (a : Option Addr) (len cap : Nat) (xs : List Op5) (w : World) (hr : OpRow w a len xs) (hlen : len ≤ 5000) : Calls Try.prog 101 #[.slice a len cap] w (LenPost (oPairs xs).length w) := by
  refine (ref_Pairs27 a len cap xs w hr hlen).mono ?_
  rintro e w' ⟨v, rfl, hv, hb⟩
  obtain ⟨b, c, rfl, _⟩ := own_read hv
  exact ⟨b, c, rfl, hb⟩
theorem ope_PendL (a : Option Addr) (len cap : Nat) (xs : List Op5) (w : World) (hr : OpRow w a len xs) (hlen : len ≤ 5000) : Calls Try.prog 98 #[.slice a len cap] w (LenPost (oPend xs).length w) := by
  refine (ope_Pending a len cap xs w hr (by omega)).mono ?_
  rintro e w' ⟨v, rfl, hv, hb⟩
  obtain ⟨b, c, rfl, _⟩ := own_read hv
  exact ⟨b, c, rfl, hb⟩
theorem ref_PendL (a : Option Addr) (len cap : Nat) (xs : List Op5) (w : World) (hr : OpRow w a len xs) (hlen : len ≤ 5000) : Calls Try.prog 102 #[.slice a len cap] w (LenPost (oPend xs).length w) := by
  refine (ref_Pending27 a len cap xs w hr (by omega)).mono ?_
  rintro e w' ⟨v, rfl, hv, hb⟩
  obtain ⟨b, c, rfl, _⟩ := own_read hv
  exact ⟨b, c, rfl, hb⟩
theorem oPend_len (xs : List Op5) : (oPend xs).length ≤ xs.length := by
  unfold oPend; rw [List.length_map]; exact Nat.le_trans (List.length_filter_le _ _) (by simp)

theorem parts_later {X w' : World} (hb : Below (X.alloc (.cells #[.int .i64 0, .int .i64 0, .int .i64 0, .int .i64 0] 124)).heap.size (X.alloc (.cells #[.int .i64 0, .int .i64 0, .int .i64 0, .int .i64 0] 124)) w') : Blk w' X.heap.size #[.int .i64 0, .int .i64 0, .int .i64 0, .int .i64 0] 124 := (Blk.made _ _ _).later hb

theorem parts_later2 {X w' : World} (hb : Below (X.alloc (.cells #[.int .i64 0, .int .i64 0, .int .i64 0, .int .i64 0] 124)).drew.heap.size (X.alloc (.cells #[.int .i64 0, .int .i64 0, .int .i64 0, .int .i64 0] 124)).drew w') : Blk w' X.heap.size #[.int .i64 0, .int .i64 0, .int .i64 0, .int .i64 0] 124 := (Blk.made _ _ _).drew.later hb

theorem blk4 {w : World} {b : Nat} {t : TypeId} {x0 x1 x2 x3 y0 y1 y2 y3 : Value} (h : Blk w b #[x0, x1, x2, x3] t) : Blk ((((w.setCell ⟨b, 0, none⟩ y0).setCell ⟨b, 1, none⟩ y1).setCell ⟨b, 2, none⟩ y2).setCell ⟨b, 3, none⟩ y3) b #[y0, y1, y2, y3] t := (((h.set 0 y0).set 1 y1).set 2 y2).set 3 y3

set_option maxRecDepth 100000 in
/-- The sum of four. -/
theorem cnt_sum (b : Nat) (x0 x1 x2 x3 : Int) (w : World) (h : Blk w b #[.int .i64 x0, .int .i64 x1, .int .i64 x2, .int .i64 x3] 124) (h0 : 0 ≤ x0 ∧ x0 ≤ 10000000) (h1 : 0 ≤ x1 ∧ x1 ≤ 10000000) (h2 : 0 ≤ x2 ∧ x2 ≤ 10000000) (h3 : 0 ≤ x3 ∧ x3 ≤ 10000000) :
    Calls Try.prog 99 #[.pointer (some ⟨b, 0, none⟩)] w fun e w' => e = .returned (.int .i64 (x0 + x1 + x2 + x3)) ∧ w = w' := by
  have c0 := h.cell 0; have c1 := h.cell 1; have c2 := h.cell 2; have c3 := h.cell 3
  simp at c0 c1 c2 c3
  have hlt := h.lt
  have hx0 : ∀ w, (Instr.index 124 (.agg #[.int .i64 x0, .int .i64 x1, .int .i64 x2, .int .i64 x3]) (.int .i64 0)).run Try.prog w = .ok (.int .i64 x0) w := fun w => by kernel_rfl
  have hx1 : ∀ w, (Instr.index 124 (.agg #[.int .i64 x0, .int .i64 x1, .int .i64 x2, .int .i64 x3]) (.int .i64 1)).run Try.prog w = .ok (.int .i64 x1) w := fun w => by kernel_rfl
  have hx2 : ∀ w, (Instr.index 124 (.agg #[.int .i64 x0, .int .i64 x1, .int .i64 x2, .int .i64 x3]) (.int .i64 2)).run Try.prog w = .ok (.int .i64 x2) w := fun w => by kernel_rfl
  have hx3 : ∀ w, (Instr.index 124 (.agg #[.int .i64 x0, .int .i64 x1, .int .i64 x2, .int .i64 x3]) (.int .i64 3)).run Try.prog w = .ok (.int .i64 x3) w := fun w => by kernel_rfl
  obtain ⟨a0, b0⟩ := h0
  obtain ⟨a1, b1⟩ := h1
  obtain ⟨a2, b2⟩ := h2
  obtain ⟨a3, b3⟩ := h3
  clear h
  go_enter Try.func99, Try.ntmps99
  go_wp2_with fail
  go_loopw [1, 3, 5] (fun t x i wx => w = wx ∧ ((i = .int .i64 0 ∧ t = .int .i64 0) ∨ (i = .int .i64 1 ∧ t = .int .i64 x0) ∨ (i = .int .i64 2 ∧ t = .int .i64 (x0 + x1)) ∨ (i = .int .i64 3 ∧ t = .int .i64 (x0 + x1 + x2)) ∨ (i = .int .i64 4 ∧ t = .int .i64 (x0 + x1 + x2 + x3)))) (fun _ _ i _ => 4 - (intOf i).toNat)
  case atStart => exact ⟨rfl, Or.inl ⟨rfl, rfl⟩⟩
  case round =>
    obtain ⟨rfl, h⟩ := hrel
    rcases h with ⟨rfl, rfl⟩ | ⟨rfl, rfl⟩ | ⟨rfl, rfl⟩ | ⟨rfl, rfl⟩ | ⟨rfl, rfl⟩
    · go_wp2_with fail
      go_roundw
      case rel => exact ⟨by trivial, Or.inr (Or.inl ⟨rfl, by simp⟩)⟩
      case measure => simp [intOf]
    · go_wp2_with fail
      go_roundw
      case rel => exact ⟨by trivial, Or.inr (Or.inr (Or.inl ⟨rfl, rfl⟩))⟩
      case measure => simp [intOf]
    · go_wp2_with fail
      go_roundw
      case rel => exact ⟨by trivial, Or.inr (Or.inr (Or.inr (Or.inl ⟨rfl, rfl⟩)))⟩
      case measure => simp [intOf]
    · go_wp2_with fail
      go_roundw
      case rel => exact ⟨by trivial, Or.inr (Or.inr (Or.inr (Or.inr ⟨rfl, rfl⟩)))⟩
      case measure => simp [intOf]
    · go_wp2_with fail
      go_returns
      exact ⟨rfl, rfl⟩

set_option maxRecDepth 100000 in
set_option maxHeartbeats 20000000 in
theorem cnt_All (o s : Int) (a : Option Addr) (len cap : Nat) (xs : List Op5) (w : World) (hr : OpRow w a len xs) : Calls Try.prog 69 #[.agg #[.int .i64 o, .int .i64 s], .slice a len cap] w fun e w' => e = .returned (.int .i64 (kAll o s xs)) ∧ Below w.heap.size w w' := by
  have hxl := hr.1
  have hb1 : Below w.heap.size w (w.alloc (.cells #[.int .i64 o, .int .i64 s] 23)) := by (repeat (first | (with_reducible exact Below.refl _ _) | (with_reducible assumption) | (with_reducible refine below_alloc ?_ _) | (with_reducible refine below_drew ?_) | (with_reducible refine below_drewN ?_ _) | (with_reducible refine below_step ?_ (by with_reducible assumption))))
  have hs1 := Blk.made w #[.int .i64 o, .int .i64 s] 23
  have HR := Lib.hid (hr.later hb1)
  generalize hw1 : w.alloc (.cells #[.int .i64 o, .int .i64 s] 23) = W1 at *
  have HW1 := Lib.hid hw1; clear hw1
  have c0 := hs1.cell 0; have c1 := hs1.cell 1
  simp at c0 c1
  have HXL := Lib.hid hxl
  clear hs1 hr hxl
  by_cases hok : oOk xs ∧ nOk o s ∧ (xs.length : Int) = o
  · obtain ⟨h1, h2, h3⟩ := hok
    have HALL : Hid (kAll o s xs = kP o s + kT o s (oPairs xs).length + kS o s + kM o s ((len : Int) - (oPend xs).length)) := Lib.hid (by unfold kAll; rw [if_pos ⟨h1, h2, h3⟩, HXL.out])
    have hbd := kAll_bd o s (oPairs xs).length ((len : Int) - (oPend xs).length)
    have HBD := Lib.hid hbd
    have hpl := oPend_len xs
    have hl5 : len ≤ 5000 := by have := h1.1; have := HXL.out; omega
    have hlo : ((len : Int) != o) = false := by have := HXL.out; simp; omega
    have hdec : decide (nOk o s) = true := decide_eq_true h2
    have HOK := Lib.hid h1
    have HD := Lib.hid hdec
    rw [HXL.out] at hpl
    clear h1 h2 h3 hbd hdec
    go_enter Try.func69, Try.ntmps69
    go_wp2_with fail
    rw [HW1.out]
    refine (ope_Check _ _ _ xs _ HR.out).mono ?_
    rintro e w2 ⟨a2, c2, rfl, hchk, hb2⟩
    have hc2 : c2 = 0 := hchk.zero.2 HOK.out
    subst hc2
    have c0 := cell_later hb2 c0; have c1 := cell_later hb2 c1
    clear hchk
    go_wp2_with (first | (go_at_call 96; refine (cnt_may _ _ _).mono ?_; rintro e w3 ⟨rfl, hb3⟩; rw [HD.out]; have c0 := cell_later hb3 c0; have c1 := cell_later hb3 c1))
    refine (ope_PendL _ _ _ xs _ (HR.out.later (by (repeat (first | (with_reducible exact Below.refl _ _) | (with_reducible assumption) | (with_reducible refine below_alloc ?_ _) | (with_reducible refine below_drew ?_) | (with_reducible refine below_drewN ?_ _) | (with_reducible refine below_step ?_ (by with_reducible assumption)))))) hl5).mono ?_
    rintro e w4 ⟨pa, pc, rfl, hb4⟩
    have c0 := cell_later hb4 c0; have c1 := cell_later hb4 c1
    have hB4 : Below W1.heap.size W1 w4 := by (repeat (first | (with_reducible exact Below.refl _ _) | (with_reducible assumption) | (with_reducible refine below_alloc ?_ _) | (with_reducible refine below_drew ?_) | (with_reducible refine below_drewN ?_ _) | (with_reducible refine below_step ?_ (by with_reducible assumption))))
    go_wp2_with fail
    have hw4 : w.heap.size < w4.heap.size := World.block_lt_of_cell? _ _ c0
    go_region_held3 (fun wx => Below w4.heap.size w4 wx ∧ wx.cell? ⟨w.heap.size, 0, none⟩ = some (.int .i64 o) ∧ wx.cell? ⟨w.heap.size, 1, none⟩ = some (.int .i64 s)) ((refine ⟨?_, ?_, ?_⟩; (repeat (first | (with_reducible exact Below.refl _ _) | (with_reducible assumption) | (with_reducible refine below_alloc ?_ _) | (with_reducible refine below_drew ?_) | (with_reducible refine below_set ?_ (by omega) _ _) | (with_reducible refine below_step ?_ (by with_reducible assumption)))); all_goals (refine cell_later (w := w4) ?_ ?_ <;> (repeat (first | (with_reducible exact Below.refl _ _) | (with_reducible assumption) | (with_reducible refine below_alloc ?_ _) | (with_reducible refine below_drew ?_) | (with_reducible refine below_set ?_ (by omega) _ _) | (with_reducible refine below_step ?_ (by with_reducible assumption)))))))
      (first | (go_at_call 60; refine (cnt_P _ _ _).mono ?_; rintro e w' ⟨rfl, hbb⟩; (first | (have hblk := parts_later hbb; have z0 := hblk.cell 0; have z1 := hblk.cell 1; have z2 := hblk.cell 2; have z3 := hblk.cell 3; have f0 := hblk.free 0; have f1 := hblk.free 1; have f2 := hblk.free 2; have f3 := hblk.free 3; simp at z0 z1 z2 z3) | (have hblk := parts_later2 hbb; have z0 := hblk.cell 0; have z1 := hblk.cell 1; have z2 := hblk.cell 2; have z3 := hblk.cell 3; have f0 := hblk.free 0; have f1 := hblk.free 1; have f2 := hblk.free 2; have f3 := hblk.free 3; simp at z0 z1 z2 z3) | (have hblk := hblk.later hbb; have z0 := hblk.cell 0; have z1 := hblk.cell 1; have z2 := hblk.cell 2; have z3 := hblk.cell 3; have f0 := hblk.free 0; have f1 := hblk.free 1; have f2 := hblk.free 2; have f3 := hblk.free 3; simp at z0 z1 z2 z3) | skip); have hzz := hbb.size; try simp only [World.size_alloc, World.size_setCell, World.size_drew] at hzz) | (go_at_call 52; refine (ope_PairsL _ _ _ xs _ (HR.out.later (by (repeat (first | (with_reducible exact Below.refl _ _) | (with_reducible assumption) | (with_reducible refine below_alloc ?_ _) | (with_reducible refine below_drew ?_) | (with_reducible refine below_drewN ?_ _) | (with_reducible refine below_step ?_ (by with_reducible assumption)))))) hl5).mono ?_; rintro e w' ⟨qa, qc, rfl, hbb⟩; (first | (have hblk := parts_later hbb; have z0 := hblk.cell 0; have z1 := hblk.cell 1; have z2 := hblk.cell 2; have z3 := hblk.cell 3; have f0 := hblk.free 0; have f1 := hblk.free 1; have f2 := hblk.free 2; have f3 := hblk.free 3; simp at z0 z1 z2 z3) | (have hblk := parts_later2 hbb; have z0 := hblk.cell 0; have z1 := hblk.cell 1; have z2 := hblk.cell 2; have z3 := hblk.cell 3; have f0 := hblk.free 0; have f1 := hblk.free 1; have f2 := hblk.free 2; have f3 := hblk.free 3; simp at z0 z1 z2 z3) | (have hblk := hblk.later hbb; have z0 := hblk.cell 0; have z1 := hblk.cell 1; have z2 := hblk.cell 2; have z3 := hblk.cell 3; have f0 := hblk.free 0; have f1 := hblk.free 1; have f2 := hblk.free 2; have f3 := hblk.free 3; simp at z0 z1 z2 z3) | skip); have hzz := hbb.size; try simp only [World.size_alloc, World.size_setCell, World.size_drew] at hzz) | (go_at_call 62; refine (cnt_T _ _ _ _).mono ?_; rintro e w' ⟨rfl, hbb⟩; (first | (have hblk := parts_later hbb; have z0 := hblk.cell 0; have z1 := hblk.cell 1; have z2 := hblk.cell 2; have z3 := hblk.cell 3; have f0 := hblk.free 0; have f1 := hblk.free 1; have f2 := hblk.free 2; have f3 := hblk.free 3; simp at z0 z1 z2 z3) | (have hblk := parts_later2 hbb; have z0 := hblk.cell 0; have z1 := hblk.cell 1; have z2 := hblk.cell 2; have z3 := hblk.cell 3; have f0 := hblk.free 0; have f1 := hblk.free 1; have f2 := hblk.free 2; have f3 := hblk.free 3; simp at z0 z1 z2 z3) | (have hblk := hblk.later hbb; have z0 := hblk.cell 0; have z1 := hblk.cell 1; have z2 := hblk.cell 2; have z3 := hblk.cell 3; have f0 := hblk.free 0; have f1 := hblk.free 1; have f2 := hblk.free 2; have f3 := hblk.free 3; simp at z0 z1 z2 z3) | skip); have hzz := hbb.size; try simp only [World.size_alloc, World.size_setCell, World.size_drew] at hzz) | (go_at_call 64; refine (cnt_S _ _ _).mono ?_; rintro e w' ⟨rfl, hbb⟩; (first | (have hblk := parts_later hbb; have z0 := hblk.cell 0; have z1 := hblk.cell 1; have z2 := hblk.cell 2; have z3 := hblk.cell 3; have f0 := hblk.free 0; have f1 := hblk.free 1; have f2 := hblk.free 2; have f3 := hblk.free 3; simp at z0 z1 z2 z3) | (have hblk := parts_later2 hbb; have z0 := hblk.cell 0; have z1 := hblk.cell 1; have z2 := hblk.cell 2; have z3 := hblk.cell 3; have f0 := hblk.free 0; have f1 := hblk.free 1; have f2 := hblk.free 2; have f3 := hblk.free 3; simp at z0 z1 z2 z3) | (have hblk := hblk.later hbb; have z0 := hblk.cell 0; have z1 := hblk.cell 1; have z2 := hblk.cell 2; have z3 := hblk.cell 3; have f0 := hblk.free 0; have f1 := hblk.free 1; have f2 := hblk.free 2; have f3 := hblk.free 3; simp at z0 z1 z2 z3) | skip); have hzz := hbb.size; try simp only [World.size_alloc, World.size_setCell, World.size_drew] at hzz) | (go_at_call 66; refine (cnt_M _ _ _ _).mono ?_; rintro e w' ⟨rfl, hbb⟩; (first | (have hblk := parts_later hbb; have z0 := hblk.cell 0; have z1 := hblk.cell 1; have z2 := hblk.cell 2; have z3 := hblk.cell 3; have f0 := hblk.free 0; have f1 := hblk.free 1; have f2 := hblk.free 2; have f3 := hblk.free 3; simp at z0 z1 z2 z3) | (have hblk := parts_later2 hbb; have z0 := hblk.cell 0; have z1 := hblk.cell 1; have z2 := hblk.cell 2; have z3 := hblk.cell 3; have f0 := hblk.free 0; have f1 := hblk.free 1; have f2 := hblk.free 2; have f3 := hblk.free 3; simp at z0 z1 z2 z3) | (have hblk := hblk.later hbb; have z0 := hblk.cell 0; have z1 := hblk.cell 1; have z2 := hblk.cell 2; have z3 := hblk.cell 3; have f0 := hblk.free 0; have f1 := hblk.free 1; have f2 := hblk.free 2; have f3 := hblk.free 3; simp at z0 z1 z2 z3) | skip); have hzz := hbb.size; try simp only [World.size_alloc, World.size_setCell, World.size_drew] at hzz))
    all_goals
      rename_i hHeld
      have hBB := hHeld.1
      clear hHeld
      go_wp2_with fail
      refine (cnt_sum _ (kP o s) (kT o s (oPairs xs).length) (kS o s) (kM o s ((len : Int) - (oPend xs).length)) _ ?hb ⟨HBD.out.1, by have := HBD.out; omega⟩ ⟨HBD.out.2.2.1, by have := HBD.out; omega⟩ ⟨HBD.out.2.2.2.2.1, by have := HBD.out; omega⟩ ⟨HBD.out.2.2.2.2.2.2.1, by have := HBD.out; omega⟩).mono ?_
      case hb => first | (with_reducible exact Blk.made _ _ _) | (with_reducible exact blk4 hblk)
      rintro e w9 ⟨rfl, rfl⟩
      rw [← HALL.out]
      go_wp2_with fail
      go_returns
      exact ⟨rfl, by (repeat (first | (with_reducible exact Below.refl _ _) | (with_reducible assumption) | (with_reducible refine below_alloc ?_ _) | (with_reducible refine below_drew ?_) | (with_reducible refine below_drewN ?_ _) | (with_reducible refine below_step ?_ (by with_reducible assumption))))⟩
  · have HNO := Lib.hid (kAll_no hok)
    by_cases h1 : oOk xs
    · by_cases h2 : nOk o s
      · have h3 : (xs.length : Int) ≠ o := fun h => hok ⟨h1, h2, h⟩
        have hlo : ((len : Int) != o) = true := by rw [← HXL.out]; simpa using h3
        have HOK := Lib.hid h1
        have HD := Lib.hid (decide_eq_true h2)
        clear h1 h2 h3 hok
        go_enter Try.func69, Try.ntmps69
        go_wp2_with fail
        rw [HW1.out]
        refine (ope_Check _ _ _ xs _ HR.out).mono ?_
        rintro e w2 ⟨a2, c2, rfl, hchk, hb2⟩
        have hc2 : c2 = 0 := hchk.zero.2 HOK.out
        subst hc2
        have c0 := cell_later hb2 c0; have c1 := cell_later hb2 c1
        clear hchk
        go_wp2_with (first | (go_at_call 96; refine (cnt_may _ _ _).mono ?_; rintro e w3 ⟨rfl, hb3⟩; rw [HD.out]; have c0 := cell_later hb3 c0; have c1 := cell_later hb3 c1))
        go_returns
        exact ⟨by rw [HNO.out]; rfl, by (repeat (first | (with_reducible exact Below.refl _ _) | (with_reducible assumption) | (with_reducible refine below_alloc ?_ _) | (with_reducible refine below_drew ?_) | (with_reducible refine below_drewN ?_ _) | (with_reducible refine below_step ?_ (by with_reducible assumption))))⟩
      · have HOK := Lib.hid h1
        have HD := Lib.hid (decide_eq_false h2)
        clear h1 h2 hok
        go_enter Try.func69, Try.ntmps69
        go_wp2_with fail
        rw [HW1.out]
        refine (ope_Check _ _ _ xs _ HR.out).mono ?_
        rintro e w2 ⟨a2, c2, rfl, hchk, hb2⟩
        have hc2 : c2 = 0 := hchk.zero.2 HOK.out
        subst hc2
        have c0 := cell_later hb2 c0; have c1 := cell_later hb2 c1
        clear hchk
        go_wp2_with (first | (go_at_call 96; refine (cnt_may _ _ _).mono ?_; rintro e w3 ⟨rfl, hb3⟩; rw [HD.out]; have c0 := cell_later hb3 c0; have c1 := cell_later hb3 c1))
        go_returns
        exact ⟨by rw [HNO.out]; rfl, by (repeat (first | (with_reducible exact Below.refl _ _) | (with_reducible assumption) | (with_reducible refine below_alloc ?_ _) | (with_reducible refine below_drew ?_) | (with_reducible refine below_drewN ?_ _) | (with_reducible refine below_step ?_ (by with_reducible assumption))))⟩
    · have H1 := Lib.hid h1
      clear h1 hok
      go_enter Try.func69, Try.ntmps69
      go_wp2_with fail
      rw [HW1.out]
      refine (ope_Check _ _ _ xs _ HR.out).mono ?_
      rintro e w2 ⟨a2, c2, rfl, hchk, hb2⟩
      have hc2 : (c2 != 0) = true := by
        have : c2 ≠ 0 := fun h => H1.out (hchk.zero.1 h)
        simpa using this
      have c0 := cell_later hb2 c0; have c1 := cell_later hb2 c1
      clear hchk
      go_wp2_with fail
      go_returns
      exact ⟨by rw [HNO.out]; rfl, by (repeat (first | (with_reducible exact Below.refl _ _) | (with_reducible assumption) | (with_reducible refine below_alloc ?_ _) | (with_reducible refine below_drew ?_) | (with_reducible refine below_drewN ?_ _) | (with_reducible refine below_step ?_ (by with_reducible assumption))))⟩

set_option maxRecDepth 100000 in
set_option maxHeartbeats 4000000 in
theorem rcnt_All (o s : Int) (a : Option Addr) (len cap : Nat) (xs : List Op5) (w : World) (hr : OpRow w a len xs) : Calls Try.prog 70 #[.int .i64 o, .int .i64 s, .slice a len cap] w fun e w' => e = .returned (.int .i64 (kAll o s xs)) ∧ Below w.heap.size w w' := by
  have HXL := Lib.hid hr.1
  have HR := Lib.hid hr
  clear hr
  by_cases h1 : oOk xs
  · have HOK := Lib.hid h1
    by_cases h2 : nOk o s
    · have hk : (nCheck o s != 0) = false := by rw [nCheck_yes h2]; rfl
      by_cases h3 : (xs.length : Int) = o
      · have HALL : Hid (kAll o s xs = kP o s + kT o s (oPairs xs).length + kS o s + kM o s (o - (oPend xs).length)) := Lib.hid (by unfold kAll; rw [if_pos ⟨h1, h2, h3⟩, h3])
        obtain ⟨b0, b1, b2, b3, b4, b5, b6, b7⟩ := kAll_bd o s (oPairs xs).length (o - (oPend xs).length)
        have hlo : ((len : Int) != o) = false := by rw [← HXL.out]; simpa using h3
        have hl5 : len ≤ 5000 := by have := h1.1; have := HXL.out; omega
        have hpl := oPend_len xs
        have ho1 : 0 ≤ o ∧ o ≤ 64 := by unfold nOk at h2; omega
        obtain ⟨o1, o2⟩ := ho1
        have hpo : ((oPend xs).length : Int) ≤ o := by omega
        clear h1 h2 h3 hpl
        go_enter Try.func70, Try.ntmps70
        go_wp2_with fail
        refine (ref_Check27 _ _ _ xs _ HR.out).mono ?_
        rintro e w2 ⟨a2, c2, rfl, hchk, hb2⟩
        have hc2 : c2 = 0 := hchk.zero.2 HOK.out
        subst hc2
        clear hchk
        go_wp2_with (first | (go_at_call 26; refine (ref_Check31 _ _ _).mono ?_; rintro e w' ⟨rfl, rfl⟩) | (go_at_call 61; refine (rcnt_P _ _ _).mono ?_; rintro e w' ⟨rfl, rfl⟩))
        refine (ref_PairsL _ _ _ xs _ (HR.out.later (by (repeat (first | (with_reducible exact Below.refl _ _) | (with_reducible assumption) | (with_reducible refine below_alloc ?_ _) | (with_reducible refine below_drew ?_) | (with_reducible refine below_drewN ?_ _) | (with_reducible refine below_step ?_ (by with_reducible assumption)))))) hl5).mono ?_
        rintro e w3 ⟨qa, qc, rfl, hb3⟩
        go_wp2_with (first | (go_at_call 63; refine (rcnt_T _ _ _ _).mono ?_; rintro e w' ⟨rfl, rfl⟩) | (go_at_call 65; refine (rcnt_S _ _ _).mono ?_; rintro e w' ⟨rfl, rfl⟩))
        refine (ref_PendL _ _ _ xs _ (HR.out.later (by (repeat (first | (with_reducible exact Below.refl _ _) | (with_reducible assumption) | (with_reducible refine below_alloc ?_ _) | (with_reducible refine below_drew ?_) | (with_reducible refine below_drewN ?_ _) | (with_reducible refine below_step ?_ (by with_reducible assumption)))))) hl5).mono ?_
        rintro e w4 ⟨pa, pc, rfl, hb4⟩
        go_wp2_with (first | (go_at_call 67; refine (rcnt_M _ _ _ _).mono ?_; rintro e w' ⟨rfl, rfl⟩))
        go_returns
        exact ⟨by rw [HALL.out]; rfl, by (repeat (first | (with_reducible exact Below.refl _ _) | (with_reducible assumption) | (with_reducible refine below_alloc ?_ _) | (with_reducible refine below_drew ?_) | (with_reducible refine below_drewN ?_ _) | (with_reducible refine below_step ?_ (by with_reducible assumption))))⟩
      · have HNO := Lib.hid (kAll_no (o := o) (s := s) (xs := xs) (fun h => h3 h.2.2))
        have hlo : ((len : Int) != o) = true := by rw [← HXL.out]; simpa using h3
        clear h1 h2 h3
        go_enter Try.func70, Try.ntmps70
        go_wp2_with fail
        refine (ref_Check27 _ _ _ xs _ HR.out).mono ?_
        rintro e w2 ⟨a2, c2, rfl, hchk, hb2⟩
        have hc2 : c2 = 0 := hchk.zero.2 HOK.out
        subst hc2
        clear hchk
        go_wp2_with (first | (go_at_call 26; refine (ref_Check31 _ _ _).mono ?_; rintro e w' ⟨rfl, rfl⟩))
        go_returns
        exact ⟨by rw [HNO.out]; rfl, by (repeat (first | (with_reducible exact Below.refl _ _) | (with_reducible assumption) | (with_reducible refine below_alloc ?_ _) | (with_reducible refine below_drew ?_) | (with_reducible refine below_drewN ?_ _) | (with_reducible refine below_step ?_ (by with_reducible assumption))))⟩
    · have hk : (nCheck o s != 0) = true := by rw [nCheck_no h2]; rfl
      have HNO := Lib.hid (kAll_no (o := o) (s := s) (xs := xs) (fun h => h2 h.2.1))
      clear h1 h2
      go_enter Try.func70, Try.ntmps70
      go_wp2_with fail
      refine (ref_Check27 _ _ _ xs _ HR.out).mono ?_
      rintro e w2 ⟨a2, c2, rfl, hchk, hb2⟩
      have hc2 : c2 = 0 := hchk.zero.2 HOK.out
      subst hc2
      clear hchk
      go_wp2_with (first | (go_at_call 26; refine (ref_Check31 _ _ _).mono ?_; rintro e w' ⟨rfl, rfl⟩))
      go_returns
      exact ⟨by rw [HNO.out]; rfl, by (repeat (first | (with_reducible exact Below.refl _ _) | (with_reducible assumption) | (with_reducible refine below_alloc ?_ _) | (with_reducible refine below_drew ?_) | (with_reducible refine below_drewN ?_ _) | (with_reducible refine below_step ?_ (by with_reducible assumption))))⟩
  · have H1 := Lib.hid h1
    have HNO := Lib.hid (kAll_no (o := o) (s := s) (xs := xs) (fun h => h1 h.1))
    clear h1
    go_enter Try.func70, Try.ntmps70
    go_wp2_with fail
    refine (ref_Check27 _ _ _ xs _ HR.out).mono ?_
    rintro e w2 ⟨a2, c2, rfl, hchk, hb2⟩
    have hc2 : (c2 != 0) = true := by
      have : c2 ≠ 0 := fun h => H1.out (hchk.zero.1 h)
      simpa using this
    clear hchk
    go_wp2_with fail
    go_returns
    exact ⟨by rw [HNO.out]; rfl, by (repeat (first | (with_reducible exact Below.refl _ _) | (with_reducible assumption) | (with_reducible refine below_alloc ?_ _) | (with_reducible refine below_drew ?_) | (with_reducible refine below_drewN ?_ _) | (with_reducible refine below_step ?_ (by with_reducible assumption))))⟩
end Go.Proofs.Ythfcbjfeepindaa
