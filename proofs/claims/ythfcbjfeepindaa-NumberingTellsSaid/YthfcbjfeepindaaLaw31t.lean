/- Layer 31: NumberingTells is true for every input. -/
import Derived.Test.YthfcbjfeepindaaLaw31
import Derived.Test.YthfcbjfeepindaaNumN
namespace Go.Proofs.Ythfcbjfeepindaa
open Go.RowKit
set_option linter.unusedVariables false
set_option linter.unusedSimpArgs false
def smallB (o : Int) : Bool := decide (o ≤ 12 ∨ 64 < o)
theorem law31_small (o s : Int) (w : World) : Calls Try.prog 21 #[.agg #[.int .i64 o, .int .i64 s]] w fun e w' => e = .returned (.bool (smallB o)) ∧ Below w.heap.size w w' := by
  go_enter Try.func21, Try.ntmps21
  go_wp2
  all_goals (go_returns; exact ⟨ret_bool (by unfold smallB; simp; try omega), by (repeat (first | (with_reducible exact Below.refl _ _) | (with_reducible assumption) | (with_reducible refine below_alloc ?_ _) | (with_reducible refine below_drew ?_) | (with_reducible refine below_drewN ?_ _) | (with_reducible refine below_step ?_ (by with_reducible assumption))))⟩)

theorem nVars_nonneg (o s : Int) : 0 ≤ nVars o s ∧ nVars o s ≤ 6240 := by
  unfold nVars; split
  · rename_i h; exact nAhead_bd h 4
  · omega

set_option maxHeartbeats 2000000 in
theorem numberingTells_walk (w : World) (o s : Int) (wo : (Lit.int .i64 o).wf = true) (ws : (Lit.int .i64 s).wf = true) (k a b : Int) (wk : (Lit.int .i64 k).wf = true) (wa : (Lit.int .i64 a).wf = true) (wb : (Lit.int .i64 b).wf = true)
    (v : Int) (wv : (Lit.int .i64 v).wf = true) :
    Calls Try.prog 3 #[.agg #[.int .i64 o, .int .i64 s], .agg #[.int .i64 k, .int .i64 a, .int .i64 b], .int .i64 v] w fun e w' => e = .returned (.bool true) ∧ Below w.heap.size w w' := by
  clear wo ws wk wa wb wv
  have hb2 : Below w.heap.size w ((w.alloc (.cells #[.int .i64 o, .int .i64 s] 23)).alloc (.cells #[.int .i64 k, .int .i64 a, .int .i64 b] 25)) := by (repeat (first | (with_reducible exact Below.refl _ _) | (with_reducible assumption) | (with_reducible refine below_alloc ?_ _) | (with_reducible refine below_drew ?_) | (with_reducible refine below_drewN ?_ _) | (with_reducible refine below_step ?_ (by with_reducible assumption))))
  have hs : Blk ((w.alloc (.cells #[.int .i64 o, .int .i64 s] 23)).alloc (.cells #[.int .i64 k, .int .i64 a, .int .i64 b] 25)) w.heap.size #[.int .i64 o, .int .i64 s] 23 := Blk.later (Blk.made _ _ _) (by (repeat (first | (with_reducible exact Below.refl _ _) | (with_reducible assumption) | (with_reducible refine below_alloc ?_ _) | (with_reducible refine below_drew ?_) | (with_reducible refine below_drewN ?_ _) | (with_reducible refine below_step ?_ (by with_reducible assumption)))))
  have hn : Blk ((w.alloc (.cells #[.int .i64 o, .int .i64 s] 23)).alloc (.cells #[.int .i64 k, .int .i64 a, .int .i64 b] 25)) (w.heap.size + 1) #[.int .i64 k, .int .i64 a, .int .i64 b] 25 := Blk.at _ _ _ (by simp)
  generalize hw2 : ((w.alloc (.cells #[.int .i64 o, .int .i64 s] 23)).alloc (.cells #[.int .i64 k, .int .i64 a, .int .i64 b] 25)) = w2 at hb2 hs hn
  have HW2 := Lib.hid hw2; clear hw2
  have c0 := hs.cell 0; have c1 := hs.cell 1; have c2 := hn.cell 0; have c3 := hn.cell 1; have c4 := hn.cell 2
  simp at c0 c1 c2 c3 c4
  cases hsm : smallB o
  · go_enter Try.func3, Try.ntmps3
    go_wp2_with fail
    rw [HW2.out]
    go_wp2_with (first | (go_at_call 22; refine (law31_awake _).mono ?_; rintro e w' ⟨rfl, hbAw⟩) | (go_at_call 21; refine (law31_small _ _ _).mono ?_; rintro e w' ⟨rfl, hb⟩))
    go_returns
    exact ⟨rfl, by (repeat (first | (with_reducible exact Below.refl _ _) | (with_reducible assumption) | (with_reducible refine below_alloc ?_ _) | (with_reducible refine below_drew ?_) | (with_reducible refine below_drewN ?_ _) | (with_reducible refine below_step ?_ (by with_reducible assumption))))⟩
  · go_enter Try.func3, Try.ntmps3
    go_wp2_with fail
    rw [HW2.out]
    go_wp2_with fail
    refine (law31_small _ _ _).mono ?_
    rintro e w' ⟨rfl, hb⟩
    rw [hsm]
    have q0 := (hs.later (w' := w') (by (repeat (first | (with_reducible exact Below.refl _ _) | (with_reducible assumption) | (with_reducible refine below_alloc ?_ _) | (with_reducible refine below_drew ?_) | (with_reducible refine below_drewN ?_ _) | (with_reducible refine below_step ?_ (by with_reducible assumption)))))).cell 0; have q1 := (hs.later (w' := w') (by (repeat (first | (with_reducible exact Below.refl _ _) | (with_reducible assumption) | (with_reducible refine below_alloc ?_ _) | (with_reducible refine below_drew ?_) | (with_reducible refine below_drewN ?_ _) | (with_reducible refine below_step ?_ (by with_reducible assumption)))))).cell 1; have q2 := (hn.later (w' := w') (by (repeat (first | (with_reducible exact Below.refl _ _) | (with_reducible assumption) | (with_reducible refine below_alloc ?_ _) | (with_reducible refine below_drew ?_) | (with_reducible refine below_drewN ?_ _) | (with_reducible refine below_step ?_ (by with_reducible assumption)))))).cell 0; have q3 := (hn.later (w' := w') (by (repeat (first | (with_reducible exact Below.refl _ _) | (with_reducible assumption) | (with_reducible refine below_alloc ?_ _) | (with_reducible refine below_drew ?_) | (with_reducible refine below_drewN ?_ _) | (with_reducible refine below_step ?_ (by with_reducible assumption)))))).cell 1; have q4 := (hn.later (w' := w') (by (repeat (first | (with_reducible exact Below.refl _ _) | (with_reducible assumption) | (with_reducible refine below_alloc ?_ _) | (with_reducible refine below_drew ?_) | (with_reducible refine below_drewN ?_ _) | (with_reducible refine below_step ?_ (by with_reducible assumption)))))).cell 2; have l1 := (hs.later (w' := w') (by (repeat (first | (with_reducible exact Below.refl _ _) | (with_reducible assumption) | (with_reducible refine below_alloc ?_ _) | (with_reducible refine below_drew ?_) | (with_reducible refine below_drewN ?_ _) | (with_reducible refine below_step ?_ (by with_reducible assumption)))))).lt; have l2 := (hn.later (w' := w') (by (repeat (first | (with_reducible exact Below.refl _ _) | (with_reducible assumption) | (with_reducible refine below_alloc ?_ _) | (with_reducible refine below_drew ?_) | (with_reducible refine below_drewN ?_ _) | (with_reducible refine below_step ?_ (by with_reducible assumption)))))).lt; simp at q0 q1 q2 q3 q4
    go_wp2_with fail
    refine (ref_Names _ _ _).mono ?_
    rintro e w3 ⟨lv, rfl, hown, hb3⟩
    have hnv := nVars_nonneg o s
    generalize hN : (nVars o s).toNat = N at *
    have hNV : (N : Int) = nVars o s := by omega
    have hNE : (nVars o s == (N : Int)) = true := by simp; omega
    have hN6 : N ≤ 6240 := by omega
    have HN := Lib.hid hN; clear hN
    have HNV := Lib.hid hNV; clear hNV
    have hb3' : Below w2.heap.size w2 w3 := by (repeat (first | (with_reducible exact Below.refl _ _) | (with_reducible assumption) | (with_reducible refine below_alloc ?_ _) | (with_reducible refine below_drew ?_) | (with_reducible refine below_drewN ?_ _) | (with_reducible refine below_step ?_ (by with_reducible assumption))))
    obtain ⟨a0, cap, rfl, hc1, hc2, hrow⟩ := own_read hown
    have HR := Lib.hid hrow; clear hrow
    clear c0 c1 c2 c3 c4 q0 q1 q2 q3 q4 l1 l2 hb hb3
    have hs3 := hs.later hb3'; have hn3 := hn.later hb3'
    have c0 := hs3.cell 0; have c1 := hs3.cell 1
    simp at c0 c1
    go_wp2_with fail
    refine (num_Of _ _ _ _).mono ?_
    rintro e w4 ⟨rfl, hb4⟩
    have hs4 := hs3.later hb4; have hn4 := hn3.later hb4
    have l1 := hs4.lt; have l2 := hn4.lt
    have hb4' : Below w.heap.size w w4 := below_step (below_step hb2 hb3') hb4
    rw [nmV_eq]
    by_cases hr : 1 ≤ v ∧ v ≤ nVars o s
    · have hok : nOfOk o s v = true := by unfold nOfOk; simpa using hr
      obtain ⟨j, rfl⟩ : ∃ j : Nat, v = (j : Int) + 1 := ⟨(v - 1).toNat, by omega⟩
      have hj : j < N := by have := HNV.out; omega
      have r0 := HR.out (j * 3 + 0) _ ((namesVals_at o s _ j hj 0 (by omega)).trans rfl)
      have r1 := HR.out (j * 3 + 1) _ ((namesVals_at o s _ j hj 1 (by omega)).trans rfl)
      have r2 := HR.out (j * 3 + 2) _ ((namesVals_at o s _ j hj 2 (by omega)).trans rfl)
      obtain ⟨g, off, rfl, r0⟩ := r0
      obtain ⟨_, _, e1, r1⟩ := r1
      cases e1
      obtain ⟨_, _, e2, r2⟩ := r2
      cases e2
      simp only [Nat.add_zero, ← Nat.add_assoc] at r0 r1 r2
      have r0 := cell_later hb4 r0; have r1 := cell_later hb4 r1; have r2 := cell_later hb4 r2
      have l3 := World.block_lt_of_cell? _ _ r0
      dsimp only at l3
      rw [hok]
      generalize (nOf o s ((j : Int) + 1)).1 = x at *
      generalize (nOf o s ((j : Int) + 1)).2.1 = y at *
      generalize (nOf o s ((j : Int) + 1)).2.2 = z at *
      clear hr c0 c1
      have t1 : decide ((1 : Int) ≤ (j : Int) + 1) = true := by simp; omega
      have t2 : decide ((j : Int) + 1 ≤ (N : Int)) = true := by simp; omega
      have t3 : (0 : Int) ≤ (j : Int) := by omega
      have t4 : (j : Int) < (N : Int) := by omega
      have t5 : IntKind.i64.wrap (j : Int) = j := IntWalk.i64_in _ (by omega)
      go_wp2_with fail
      go_quiet (fail)
      (clear t1; go_wp2_with fail; obtain ⟨w5, hw5, hs5, hn5, hb5⟩ : ∃ w5 : World, (w4.alloc (.cells #[.int .i64 x, .int .i64 y, .int .i64 z] 25)).drewN nq = w5 ∧ Blk w5 w.heap.size #[.int .i64 o, .int .i64 s] 23 ∧ Blk w5 (w.heap.size + 1) #[.int .i64 k, .int .i64 a, .int .i64 b] 25 ∧ Below w.heap.size w w5 := ⟨_, rfl, hs4.later (below_drewN (below_alloc (Below.refl _ _) (.cells #[.int .i64 x, .int .i64 y, .int .i64 z] 25)) nq), hn4.later (below_drewN (below_alloc (Below.refl _ _) (.cells #[.int .i64 x, .int .i64 y, .int .i64 z] 25)) nq), below_drewN (below_alloc hb4' (.cells #[.int .i64 x, .int .i64 y, .int .i64 z] 25)) nq⟩; rw [hw5]; clear hw5; have c0 := hs5.cell 0; have c1 := hs5.cell 1; have c2 := hn5.cell 0; have c3 := hn5.cell 1; have c4 := hn5.cell 2; simp at c0 c1 c2 c3 c4; go_region_held3 (fun wx => Below w5.heap.size w5 wx ∧ wx.cell? ⟨w.heap.size, 0, none⟩ = some (.int .i64 o) ∧ wx.cell? ⟨w.heap.size, 1, none⟩ = some (.int .i64 s) ∧ wx.cell? ⟨w.heap.size + 1, 0, none⟩ = some (.int .i64 k) ∧ wx.cell? ⟨w.heap.size + 1, 1, none⟩ = some (.int .i64 a) ∧ wx.cell? ⟨w.heap.size + 1, 2, none⟩ = some (.int .i64 b)) ((refine ⟨?_, ?_, ?_, ?_, ?_, ?_⟩; (repeat (first | (with_reducible exact Below.refl _ _) | (with_reducible assumption) | (with_reducible refine below_alloc ?_ _) | (with_reducible refine below_drew ?_) | (with_reducible refine below_drewN ?_ _) | (with_reducible refine below_step ?_ (by with_reducible assumption)))); all_goals (refine cell_later (w := w5) ?_ ?_ <;> (repeat (first | (with_reducible exact Below.refl _ _) | (with_reducible assumption) | (with_reducible refine below_alloc ?_ _) | (with_reducible refine below_drew ?_) | (with_reducible refine below_drewN ?_ _) | (with_reducible refine below_step ?_ (by with_reducible assumption))))))) (first | (go_at_call 25; refine (num_Check _ _ _).mono ?_; rintro e w' ⟨rfl, hb⟩) | (go_at_call 26; refine (ref_Check31 _ _ _).mono ?_; rintro e w' ⟨rfl, rfl⟩) | (go_at_call 27; refine (num_Vars _ _ _).mono ?_; rintro e w' ⟨rfl, hb⟩) | (go_at_call 28; refine (num_Var _ _ _ _ _ _).mono ?_; rintro e w' ⟨rfl, hb⟩) | (go_at_call 29; refine (ref_Var31 _ _ _ _ _ _).mono ?_; rintro e w' ⟨rfl, hb⟩) | (go_at_call 22; refine (law31_awake _).mono ?_; rintro e w' ⟨rfl, hb⟩)); all_goals (go_wp2; go_returns; exact ⟨rfl, by (repeat (first | (with_reducible exact Below.refl _ _) | (with_reducible assumption) | (with_reducible refine below_alloc ?_ _) | (with_reducible refine below_drew ?_) | (with_reducible refine below_drewN ?_ _) | (with_reducible refine below_step ?_ (by with_reducible assumption))))⟩))
    · have hok : nOfOk o s v = false := by unfold nOfOk; simpa using hr
      have e2 : nOf o s v = (0, 0, 0) := by unfold nOf; rw [if_neg hr]
      rw [hok, e2]
      clear e2
      have HNR := Lib.hid hr; clear hr
      by_cases h1 : 1 ≤ v
      · have t1 : decide (1 ≤ v) = true := by simp; omega
        have t2 : decide (v ≤ (N : Int)) = false := by have := HNV.out; have := HNR.out; simp; omega
        go_wp2_with fail
        go_quiet (fail)
        (clear t1; go_wp2_with fail; obtain ⟨w5, hw5, hs5, hn5, hb5⟩ : ∃ w5 : World, (w4.alloc (.cells #[.int .i64 0, .int .i64 0, .int .i64 0] 25)).drewN nq = w5 ∧ Blk w5 w.heap.size #[.int .i64 o, .int .i64 s] 23 ∧ Blk w5 (w.heap.size + 1) #[.int .i64 k, .int .i64 a, .int .i64 b] 25 ∧ Below w.heap.size w w5 := ⟨_, rfl, hs4.later (below_drewN (below_alloc (Below.refl _ _) (.cells #[.int .i64 0, .int .i64 0, .int .i64 0] 25)) nq), hn4.later (below_drewN (below_alloc (Below.refl _ _) (.cells #[.int .i64 0, .int .i64 0, .int .i64 0] 25)) nq), below_drewN (below_alloc hb4' (.cells #[.int .i64 0, .int .i64 0, .int .i64 0] 25)) nq⟩; rw [hw5]; clear hw5; have c0 := hs5.cell 0; have c1 := hs5.cell 1; have c2 := hn5.cell 0; have c3 := hn5.cell 1; have c4 := hn5.cell 2; simp at c0 c1 c2 c3 c4; go_region_held3 (fun wx => Below w5.heap.size w5 wx ∧ wx.cell? ⟨w.heap.size, 0, none⟩ = some (.int .i64 o) ∧ wx.cell? ⟨w.heap.size, 1, none⟩ = some (.int .i64 s) ∧ wx.cell? ⟨w.heap.size + 1, 0, none⟩ = some (.int .i64 k) ∧ wx.cell? ⟨w.heap.size + 1, 1, none⟩ = some (.int .i64 a) ∧ wx.cell? ⟨w.heap.size + 1, 2, none⟩ = some (.int .i64 b)) ((refine ⟨?_, ?_, ?_, ?_, ?_, ?_⟩; (repeat (first | (with_reducible exact Below.refl _ _) | (with_reducible assumption) | (with_reducible refine below_alloc ?_ _) | (with_reducible refine below_drew ?_) | (with_reducible refine below_drewN ?_ _) | (with_reducible refine below_step ?_ (by with_reducible assumption)))); all_goals (refine cell_later (w := w5) ?_ ?_ <;> (repeat (first | (with_reducible exact Below.refl _ _) | (with_reducible assumption) | (with_reducible refine below_alloc ?_ _) | (with_reducible refine below_drew ?_) | (with_reducible refine below_drewN ?_ _) | (with_reducible refine below_step ?_ (by with_reducible assumption))))))) (first | (go_at_call 25; refine (num_Check _ _ _).mono ?_; rintro e w' ⟨rfl, hb⟩) | (go_at_call 26; refine (ref_Check31 _ _ _).mono ?_; rintro e w' ⟨rfl, rfl⟩) | (go_at_call 27; refine (num_Vars _ _ _).mono ?_; rintro e w' ⟨rfl, hb⟩) | (go_at_call 28; refine (num_Var _ _ _ _ _ _).mono ?_; rintro e w' ⟨rfl, hb⟩) | (go_at_call 29; refine (ref_Var31 _ _ _ _ _ _).mono ?_; rintro e w' ⟨rfl, hb⟩) | (go_at_call 22; refine (law31_awake _).mono ?_; rintro e w' ⟨rfl, hb⟩)); all_goals (go_wp2; go_returns; exact ⟨rfl, by (repeat (first | (with_reducible exact Below.refl _ _) | (with_reducible assumption) | (with_reducible refine below_alloc ?_ _) | (with_reducible refine below_drew ?_) | (with_reducible refine below_drewN ?_ _) | (with_reducible refine below_step ?_ (by with_reducible assumption))))⟩))
      · have t1 : decide (1 ≤ v) = false := by simp; omega
        go_wp2_with fail
        go_quiet (fail)
        (clear t1; go_wp2_with fail; obtain ⟨w5, hw5, hs5, hn5, hb5⟩ : ∃ w5 : World, (w4.alloc (.cells #[.int .i64 0, .int .i64 0, .int .i64 0] 25)).drewN nq = w5 ∧ Blk w5 w.heap.size #[.int .i64 o, .int .i64 s] 23 ∧ Blk w5 (w.heap.size + 1) #[.int .i64 k, .int .i64 a, .int .i64 b] 25 ∧ Below w.heap.size w w5 := ⟨_, rfl, hs4.later (below_drewN (below_alloc (Below.refl _ _) (.cells #[.int .i64 0, .int .i64 0, .int .i64 0] 25)) nq), hn4.later (below_drewN (below_alloc (Below.refl _ _) (.cells #[.int .i64 0, .int .i64 0, .int .i64 0] 25)) nq), below_drewN (below_alloc hb4' (.cells #[.int .i64 0, .int .i64 0, .int .i64 0] 25)) nq⟩; rw [hw5]; clear hw5; have c0 := hs5.cell 0; have c1 := hs5.cell 1; have c2 := hn5.cell 0; have c3 := hn5.cell 1; have c4 := hn5.cell 2; simp at c0 c1 c2 c3 c4; go_region_held3 (fun wx => Below w5.heap.size w5 wx ∧ wx.cell? ⟨w.heap.size, 0, none⟩ = some (.int .i64 o) ∧ wx.cell? ⟨w.heap.size, 1, none⟩ = some (.int .i64 s) ∧ wx.cell? ⟨w.heap.size + 1, 0, none⟩ = some (.int .i64 k) ∧ wx.cell? ⟨w.heap.size + 1, 1, none⟩ = some (.int .i64 a) ∧ wx.cell? ⟨w.heap.size + 1, 2, none⟩ = some (.int .i64 b)) ((refine ⟨?_, ?_, ?_, ?_, ?_, ?_⟩; (repeat (first | (with_reducible exact Below.refl _ _) | (with_reducible assumption) | (with_reducible refine below_alloc ?_ _) | (with_reducible refine below_drew ?_) | (with_reducible refine below_drewN ?_ _) | (with_reducible refine below_step ?_ (by with_reducible assumption)))); all_goals (refine cell_later (w := w5) ?_ ?_ <;> (repeat (first | (with_reducible exact Below.refl _ _) | (with_reducible assumption) | (with_reducible refine below_alloc ?_ _) | (with_reducible refine below_drew ?_) | (with_reducible refine below_drewN ?_ _) | (with_reducible refine below_step ?_ (by with_reducible assumption))))))) (first | (go_at_call 25; refine (num_Check _ _ _).mono ?_; rintro e w' ⟨rfl, hb⟩) | (go_at_call 26; refine (ref_Check31 _ _ _).mono ?_; rintro e w' ⟨rfl, rfl⟩) | (go_at_call 27; refine (num_Vars _ _ _).mono ?_; rintro e w' ⟨rfl, hb⟩) | (go_at_call 28; refine (num_Var _ _ _ _ _ _).mono ?_; rintro e w' ⟨rfl, hb⟩) | (go_at_call 29; refine (ref_Var31 _ _ _ _ _ _).mono ?_; rintro e w' ⟨rfl, hb⟩) | (go_at_call 22; refine (law31_awake _).mono ?_; rintro e w' ⟨rfl, hb⟩)); all_goals (go_wp2; go_returns; exact ⟨rfl, by (repeat (first | (with_reducible exact Below.refl _ _) | (with_reducible assumption) | (with_reducible refine below_alloc ?_ _) | (with_reducible refine below_drew ?_) | (with_reducible refine below_drewN ?_ _) | (with_reducible refine below_step ?_ (by with_reducible assumption))))⟩))
end Go.Proofs.Ythfcbjfeepindaa
